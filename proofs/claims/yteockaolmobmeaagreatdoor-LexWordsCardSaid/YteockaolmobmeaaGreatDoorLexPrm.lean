/-
  May of the document, of a word of the primitives: walked.
-/
import Derived.Test.YteockaolmobmeaaGreatDoorLexMyR
namespace Go.Proofs.YteockaolmobmeaaGreatDoor.Mu
open Go.RowKit Go.Shelf
set_option maxRecDepth 100000
open Classical in
set_option maxHeartbeats 8000000 in
theorem rmay_prim (S : ByteArray) (n a l c : Int) (w : World) :
    Calls Tryz.prog 30 #[.agg #[.int .u8 6, .string S, .int .i64 n, .int .i64 a, .int .i64 l, .int .i64 c]] w fun e w' => e = .returned (.bool (decide (mayTk (6, S.data.toList, n)))) ∧ Bel w w' := by
  obtain ⟨ans, hans⟩ : ∃ ans, ans = decide (mayTk (6, S.data.toList, n)) := ⟨_, rfl⟩
  rw [← hans]
  have ha : ans = decide (S.data.toList ∈ primsB ∧ n = 0) := by rw [hans]; exact decide_eq_decide.2 may_k6
  obtain ⟨p, hp⟩ : ∃ p, p = decide (S.data.toList ∈ primsB) := ⟨_, rfl⟩
  have ha2 : ans = (p && decide (n = 0)) := by rw [ha, hp, Bool.decide_and]
  have HA := Lib.hid ha2
  obtain ⟨w1, hw1⟩ : ∃ w1, w1 = w.alloc (.cells #[.int .u8 6, .string S, .int .i64 n, .int .i64 a, .int .i64 l, .int .i64 c] 44) := ⟨_, rfl⟩
  have HB1 : Hid (Bel w w1) := by rw [hw1]; exact Lib.hid ((Bel.refl w).alloc _)
  have HQ1 : Hid (w1.heap[w.heap.size]? = some (.cells #[.int .u8 6, .string S, .int .i64 n, .int .i64 a, .int .i64 l, .int .i64 c] 44 (0, 0))) := by rw [hw1]; exact Lib.hid (blk1 w _)
  have HP : Hid (∀ (A : Option Addr) (W : World), RL W W.heap.size A 10 primsB → Calls Tryz.prog 46 #[.slice A 10 10, .string S] W fun e w' => e = .returned (.bool p) ∧ W = w') := Lib.hid fun A W hr => hasS_any S A 10 10 primsB W (by decide) hr p hp
  clear ha hans ha2 hp
  go_enter Tryz.func30, Tryz.ntmps30
  go_upto_region 13 with fail
  rw [← hw1]
  clear hw1
  obtain ⟨⟨t0, t1, t2, t3, t4, t5⟩, -⟩ := cells6 HQ1.out
  cases p
  all_goals
    first | (go_region_with (first | (go_at_call 13; refine (rprims_any _).mono ?_; rintro e w2 ⟨⟨A2, rfl, hr2⟩, hb2⟩; (have HR2 := Lib.hid hr2); (have HB2 := Lib.hid (HB1.out.drew.on hb2)); (have hq := Bel.blk ((Bel.refl w1).drew.on hb2) HQ1.out); clear hr2 hb2; (obtain ⟨⟨s0, s1, s2, s3, s4, s5⟩, -⟩ := cells6 hq); clear hq) | (go_at_call 46; refine (HP.out _ _ HR2.out).mono ?_; rintro e w' ⟨rfl, rfl⟩))) | fail
    all_goals go_wp2
    all_goals go_ret
    all_goals exact ⟨by rw [HA.out]; first | rfl | (congr 2; rw [Bool.eq_iff_iff]; simp), HB2.out⟩
end Go.Proofs.YteockaolmobmeaaGreatDoor.Mu

