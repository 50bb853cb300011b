/-
  usufructref02.Join, walked.
-/
import Derived.Test.YtghoipgldnfjoaaRefJoin
namespace Go.Proofs.Ytghoipgldnfjoaa.Mu
open Go.ChangeShapes Go.WideShapes Go.ChangeAt Go.RowKit

def rjC (n1 n2 : Bool) (c1 c2 : Int) : Int := if n1 then (if n2 then c1 else max 2 c2) else if n2 then max 2 c1 else max c1 c2
def rjL (n1 n2 : Bool) (c1 c2 : Int) (l1 l2 : List Int) : List Int := if n1 then (if n2 then l1 else greatL (max 2 c2) ([] ++ l2)) else if n2 then greatL (max 2 c1) ([] ++ l1) else greatL (max c1 c2) (l1 ++ l2)

set_option maxHeartbeats 1000000 in
theorem rjoin_any (nv1 nv2 : Bool) (c1 c2 : Int) (A B : Option Addr) (n ca m cb : Nat) (la lb : List Int) (w : World) (ha : RI .i64 w w.heap.size A n la) (hb : RI .i64 w w.heap.size B m lb) (ra : la.Pairwise (· < ·)) (rb : lb.Pairwise (· < ·)) (hmax : n + m ≤ 1000000) :
    Calls Try.prog 23 #[.agg #[.bool nv1, .int .u8 c1, .slice A n ca], .agg #[.bool nv2, .int .u8 c2, .slice B m cb]] w (GivesT (nv1 && nv2) (rjC nv1 nv2 c1 c2) (rjL nv1 nv2 c1 c2 la lb) w.heap.size w) := by
  have HA := Lib.hid ha
  have HB := Lib.hid hb
  have PA := Lib.hid ra
  have PB := Lib.hid rb
  clear ha hb ra rb
  cases nv1
  · cases nv2
    · show Calls _ _ _ _ (GivesT false (max c1 c2) (greatL (max c1 c2) (la ++ lb)) w.heap.size w)
      have HG : Hid (∀ W, Bel w W → Calls Try.prog 61 #[.agg #[.bool false, .int .u8 c1, .slice A n ca], .agg #[.bool false, .int .u8 c2, .slice B m cb]] W (GivesT false (max c1 c2) (greatL (max c1 c2) (la ++ lb)) W.heap.size W)) :=
        Lib.hid fun W h => rgreatest_any false false c1 c2 A B n ca m cb la lb W (HA.out.bel h) (HB.out.bel h) PA.out PB.out hmax
      obtain ⟨C, hC⟩ : ∃ C, C = max c1 c2 := ⟨_, rfl⟩
      obtain ⟨L, hL⟩ : ∃ L, L = greatL C (la ++ lb) := ⟨_, rfl⟩
      rw [← hC, ← hL] at HG ⊢
      clear hC hL
      go_enter Try.func23, Try.ntmps23
      go_wp2_with (go_at_call 61; refine (HG.out _ ((((Bel.refl _).alloc _).alloc _).alloc _)).mono ?_; rintro e w1 ⟨D, j, c', rfl, hri, hb⟩; (have HK := Lib.hid (Bel.blk hb (blk3 _ _ _ _).2.2)); (obtain ⟨b0, b1, b2, g0, g1, g2⟩ := cells3 HK.out); (have HO := Lib.hid hri); clear hri; (have hz : w.heap.size + 2 < w1.heap.size := by have := hb.size; simp at this; omega); (have HB := Lib.hid hb); clear hb)
      refine bodyPost_ret (v := .agg #[.bool false, .int .u8 C, .slice D j c']) (by simp [results, Try.results23, go_sem, *]) rfl ⟨_, _, _, rfl, ?_, ?_⟩
      · have h := HO.out.put3 HK.out (.bool false) (.int .u8 C) (.slice D j c')
        simpa using h
      · show Bel w _
        exact (((((Bel.refl _).alloc _).alloc _).alloc _).on HB.out).put3 (by omega) _ _ _
    · show Calls _ _ _ _ (GivesT false (max 2 c1) (greatL (max 2 c1) ([] ++ la)) w.heap.size w)
      have HG : Hid (∀ W, Bel w W → Calls Try.prog 61 #[.agg #[.bool false, .int .u8 2, .slice none 0 0], .agg #[.bool false, .int .u8 c1, .slice A n ca]] W (GivesT false (max 2 c1) (greatL (max 2 c1) ([] ++ la)) W.heap.size W)) :=
        Lib.hid fun W h => rgreatest_any false false 2 c1 none A 0 0 n ca [] la W RI.nil_ (HA.out.bel h) List.Pairwise.nil PA.out (by omega)
      obtain ⟨C, hC⟩ : ∃ C, C = max 2 c1 := ⟨_, rfl⟩
      obtain ⟨L, hL⟩ : ∃ L, L = greatL C ([] ++ la) := ⟨_, rfl⟩
      rw [← hC, ← hL] at HG ⊢
      clear hC hL
      go_enter Try.func23, Try.ntmps23
      go_wp2_with (go_at_call 61; refine (HG.out _ ((((Bel.refl _).alloc _).alloc _).alloc _)).mono ?_; rintro e w1 ⟨D, j, c', rfl, hri, hb⟩; (have HK := Lib.hid (Bel.blk hb (blk3 _ _ _ _).2.2)); (obtain ⟨b0, b1, b2, g0, g1, g2⟩ := cells3 HK.out); (have HO := Lib.hid hri); clear hri; (have hz : w.heap.size + 2 < w1.heap.size := by have := hb.size; simp at this; omega); (have HB := Lib.hid hb); clear hb)
      refine bodyPost_ret (v := .agg #[.bool false, .int .u8 C, .slice D j c']) (by simp [results, Try.results23, go_sem, *]) rfl ⟨_, _, _, rfl, ?_, ?_⟩
      · have h := HO.out.put3 HK.out (.bool false) (.int .u8 C) (.slice D j c')
        simpa using h
      · show Bel w _
        exact (((((Bel.refl _).alloc _).alloc _).alloc _).on HB.out).put3 (by omega) _ _ _
  · cases nv2
    · show Calls _ _ _ _ (GivesT false (max 2 c2) (greatL (max 2 c2) ([] ++ lb)) w.heap.size w)
      have HG : Hid (∀ W, Bel w W → Calls Try.prog 61 #[.agg #[.bool false, .int .u8 2, .slice none 0 0], .agg #[.bool false, .int .u8 c2, .slice B m cb]] W (GivesT false (max 2 c2) (greatL (max 2 c2) ([] ++ lb)) W.heap.size W)) :=
        Lib.hid fun W h => rgreatest_any false false 2 c2 none B 0 0 m cb [] lb W RI.nil_ (HB.out.bel h) List.Pairwise.nil PB.out (by omega)
      obtain ⟨C, hC⟩ : ∃ C, C = max 2 c2 := ⟨_, rfl⟩
      obtain ⟨L, hL⟩ : ∃ L, L = greatL C ([] ++ lb) := ⟨_, rfl⟩
      rw [← hC, ← hL] at HG ⊢
      clear hC hL
      go_enter Try.func23, Try.ntmps23
      go_wp2_with (go_at_call 61; refine (HG.out _ ((((Bel.refl _).alloc _).alloc _).alloc _)).mono ?_; rintro e w1 ⟨D, j, c', rfl, hri, hb⟩; (have HK := Lib.hid (Bel.blk hb (blk3 _ _ _ _).2.2)); (obtain ⟨b0, b1, b2, g0, g1, g2⟩ := cells3 HK.out); (have HO := Lib.hid hri); clear hri; (have hz : w.heap.size + 2 < w1.heap.size := by have := hb.size; simp at this; omega); (have HB := Lib.hid hb); clear hb)
      refine bodyPost_ret (v := .agg #[.bool false, .int .u8 C, .slice D j c']) (by simp [results, Try.results23, go_sem, *]) rfl ⟨_, _, _, rfl, ?_, ?_⟩
      · have h := HO.out.put3 HK.out (.bool false) (.int .u8 C) (.slice D j c')
        simpa using h
      · show Bel w _
        exact (((((Bel.refl _).alloc _).alloc _).alloc _).on HB.out).put3 (by omega) _ _ _
    · show Calls _ _ _ _ (GivesT true c1 la w.heap.size w)
      have HA2 := Lib.hid (HA.out.bel ((((Bel.refl _).alloc (.cells #[.bool true, .int .u8 c1, .slice A n ca] 33)).alloc (.cells #[.bool true, .int .u8 c2, .slice B m cb] 33)).alloc (.cells #[.bool true, .int .u8 c1, .slice A n ca] 33)))
      go_enter Try.func23, Try.ntmps23
      go_wp2
      exact bodyPost_ret (v := .agg #[.bool true, .int .u8 c1, .slice A n ca]) (by simp [results, Try.results23, go_sem]) rfl ⟨_, _, _, rfl, HA2.out, (((Bel.refl _).alloc _).alloc _).alloc _⟩
end Go.Proofs.Ytghoipgldnfjoaa.Mu
