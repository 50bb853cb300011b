/-
  usufructref02.greatest, Join, Sum, walked.
-/
import Derived.Test.YtghoipgldnfjoaaRefBoth
namespace Go.Proofs.Ytghoipgldnfjoaa.Mu
open Go.ChangeShapes Go.WideShapes Go.ChangeAt Go.RowKit

set_option maxHeartbeats 1000000 in
theorem rgreatest_any (nv1 nv2 : Bool) (c1 c2 : Int) (A B : Option Addr) (n ca m cb : Nat) (la lb : List Int) (w : World) (ha : RI .i64 w w.heap.size A n la) (hb : RI .i64 w w.heap.size B m lb) (ra : la.Pairwise (· < ·)) (rb : lb.Pairwise (· < ·)) (hmax : n + m ≤ 1000000) :
    Calls Try.prog 61 #[.agg #[.bool nv1, .int .u8 c1, .slice A n ca], .agg #[.bool nv2, .int .u8 c2, .slice B m cb]] w (GivesT false (max c1 c2) (greatL (max c1 c2) (la ++ lb)) w.heap.size w) := by
  have HH : Hid (∀ W, Bel w W → Calls Try.prog 85 #[.slice A n ca, .slice B m cb] W fun e w' => ∃ C j c, e = .returned (.slice C j c) ∧ RI .i64 w' w'.heap.size C j (srt (la ++ lb)) ∧ Bel W w') :=
    Lib.hid fun W h => rboth_any A B n ca m cb la lb W (ha.bel h) (hb.bel h) ra rb hmax
  clear ha hb ra rb
  obtain ⟨L, hL⟩ : ∃ L, L = greatL (max c1 c2) (la ++ lb) := ⟨_, rfl⟩
  rw [← hL]
  obtain ⟨M, hM⟩ : ∃ M, M = max c1 c2 := ⟨_, rfl⟩
  rw [← hM]
  rw [← hM] at hL
  by_cases hc : c1 < c2
  case' pos => have hM' : M = c2 := by omega
  case' neg =>
    have hM' : M = c1 := by omega
    have g1 : decide (c1 < c2) = false := decide_eq_false hc
  all_goals
    clear hM
    have hM := hM'
    clear hM'
    by_cases h3 : M = 3
    case' pos =>
      have e3 : (M == 3) = true := by simpa using h3
    case' neg =>
      have e3 : (M == 3) = false := by simpa using h3
    all_goals
      have HL := Lib.hid hL
      have H3 := Lib.hid h3
      clear hL h3
      rw [hM] at e3
      go_enter Try.func61, Try.ntmps61
      go_wp2_with (go_at_call 85; refine (HH.out _ ((((Bel.refl _).alloc _).alloc _).alloc _)).mono ?_; rintro e w1 ⟨C, j, c', rfl, hri, hb⟩; (have HK := Lib.hid (Bel.blk hb (blk3 _ _ _ _).2.2)); (obtain ⟨b0, b1, b2, g0, g1, g2⟩ := cells3 HK.out); (have HO := Lib.hid hri); clear hri; (have hz : w.heap.size + 2 < w1.heap.size := by have := hb.size; simp at this; omega); (have HB := Lib.hid hb); clear hb)
      first
        | (refine bodyPost_ret (v := .agg #[.bool false, .int .u8 3, .slice none 0 0]) (by simp [results, Try.results61, go_sem]) rfl ⟨_, _, _, by first | rw [H3.out] | rw [← hM, H3.out], by rw [HL.out, greatL, if_pos H3.out]; exact RI.nil_, ?_⟩
           exact (((Bel.refl _).alloc _).alloc _).alloc _)
        | (refine bodyPost_ret (v := .agg #[.bool false, .int .u8 M, .slice C j c']) (by simp [results, Try.results61, go_sem, *]) rfl ⟨_, _, _, rfl, ?_, ?_⟩
           · have h := HO.out.put3 HK.out (.bool false) (.int .u8 M) (.slice C j c')
             rw [HL.out, greatL, if_neg H3.out]
             simpa [hM] using h
           · show Bel w _
             exact (((((Bel.refl _).alloc _).alloc _).alloc _).on HB.out).put3 (by omega) _ _ _)
end Go.Proofs.Ytghoipgldnfjoaa.Mu
