/-
  Layer 2's own functions Sum and Scale.
-/
import Derived.Test.YtghoipgldnfjoaaTermD
namespace Go.Proofs.Ytghoipgldnfjoaa.Mu
open Go.ChangeShapes Go.WideShapes Go.ChangeAt Go.RowKit

def sumC (ts : List Tm) : Int := match leftT ts with
  | [] => 0
  | [t] => t.r.c
  | _ => 3
def sumL (ts : List Tm) : List Int := match leftT ts with
  | [t] => t.l
  | _ => []

set_option maxRecDepth 100000 in
theorem sum_no (A : Option Addr) (n cap : Nat) (ts : List Tm) (w : World) (hr : RT w w.heap.size A n (raws ts)) (hL : Lies w ts) (hmax : n ≤ 1000000000) (hlen : ∀ t ∈ ts, t.l.length ≤ 1000000000) (hno : ts.all mayT = false) :
    Calls Try.prog 21 #[.slice A n cap] w (GivesTE false 0 [] 2 w) := by
  have hcall := mayAll_any A n cap ts (w.alloc (.cells #[.bool false, .int .u8 0, .slice none 0 0] 33)) (hr.bel ((Bel.refl _).alloc _)) (hL.bel ((Bel.refl _).alloc _)) hmax hlen
  rw [hno, show errF false = 2 from rfl] at hcall
  have HC := Lib.hid hcall
  clear hcall hno hr hL hlen
  go_enter Try.func21, Try.ntmps21
  go_wp2_with (go_at_call 57; refine HC.out.mono ?_; rintro e w1 ⟨rfl, hb1⟩; (obtain ⟨b0, b1, b2, g0, g1, g2⟩ := cells3 (hb1.blk (blk1 _ _))))
  refine bodyPost_ret (v := .tuple #[.agg #[.bool false, .int .u8 0, .slice none 0 0], .int .i64 2]) (by simp [results, Try.results21, go_sem, *]) rfl ⟨_, _, _, rfl, RI.nil_, ?_⟩
  exact (((Bel.refl _).alloc _).on hb1).put3 (by simp) _ _ _

set_option maxRecDepth 100000 in
set_option maxHeartbeats 1000000 in
theorem sum_yes (A : Option Addr) (n cap : Nat) (ts : List Tm) (w : World) (hr : RT w w.heap.size A n (raws ts)) (hL : Lies w ts) (hmax : n ≤ 1000000) (hlen : ∀ t ∈ ts, t.l.length ≤ 1000000000) (hyes : ts.all mayT = true) :
    Calls Try.prog 21 #[.slice A n cap] w (GivesTE (decide ((leftT ts).length = 0)) (sumC ts) (sumL ts) 0 w) := by
  have hcall := mayAll_any A n cap ts (w.alloc (.cells #[.bool false, .int .u8 0, .slice none 0 0] 33)) (hr.bel ((Bel.refl _).alloc _)) (hL.bel ((Bel.refl _).alloc _)) (by omega) hlen
  rw [hyes, show errF true = 0 from rfl] at hcall
  have HC := Lib.hid hcall
  have HR := Lib.hid hr
  have HT := Lib.hid hL
  have HLE := Lib.hid hlen
  have HN := Lib.hid (show n = ts.length by rw [hr.len]; simp [raws])
  clear hcall hyes hr hL hlen
  have hleft : ∀ W, Bel w W → Calls Try.prog 58 #[.slice A n cap] W fun e w' => ∃ A' c', e = .returned (.slice A' (leftT ts).length c') ∧ RT w' w'.heap.size A' (leftT ts).length (raws (leftT ts)) ∧ Bel W w' := fun W hb => by
    have h := left_any A n cap (raws ts) W (HR.out.bel hb) (by omega)
    rw [raws_left, show (raws (leftT ts)).length = (leftT ts).length by simp [raws]] at h
    exact h
  have hmle : (leftT ts).length ≤ 1000000 := by
    have h1 : (leftT ts).length ≤ ts.length := List.length_filter_le _ _
    have h2 := HN.out
    omega
  unfold sumC sumL
  obtain ⟨us, hus⟩ : ∃ us, us = leftT ts := ⟨_, rfl⟩
  rw [← hus] at hleft hmle ⊢
  have HU := Lib.hid hus
  clear hus
  rcases us with _ | ⟨t, us⟩
  · have HLft := Lib.hid hleft
    clear hleft
    show Calls _ _ _ _ (GivesTE true 0 [] 0 w)
    go_enter Try.func21, Try.ntmps21
    go_wp2_with (first | (go_at_call 57; refine HC.out.mono ?_; rintro e w1 ⟨rfl, hb1⟩; (have HB1 := Lib.hid hb1); clear hb1) | (go_at_call 58; refine (HLft.out _ (((Bel.refl _).alloc _).on HB1.out)).mono ?_; rintro e w2 ⟨A2, c2, rfl, hrt, hb2⟩; (have HB2 := Lib.hid (HB1.out.on hb2)); clear hb2 hrt; (obtain ⟨b0, b1, b2, g0, g1, g2⟩ := cells3 (HB2.out.blk (blk1 _ _)))))
    refine bodyPost_ret (v := .tuple #[.agg #[.bool true, .int .u8 0, .slice none 0 0], .int .i64 0]) (by simp [results, Try.results21, go_sem, *]) rfl ⟨_, _, _, rfl, RI.nil_, ?_⟩
    exact (((Bel.refl _).alloc _).on HB2.out).put3 (by simp) _ _ _
  rcases us with _ | ⟨t2, us⟩
  · have HLft := Lib.hid hleft
    have hmem : t ∈ leftT ts := by rw [← HU.out]; simp
    have hnv : t.r.nv = false := by have := (List.mem_filter.1 hmem).2; simpa using this
    have HRI := Lib.hid (HT.out.left t hmem)
    have HLN : Hid (t.r.n ≤ 1000000000) := Lib.hid (by have := HLE.out t (List.mem_filter.1 hmem).1; have := HRI.out.len; omega)
    have HV := Lib.hid hnv
    clear hleft hmem hnv
    show Calls _ _ _ _ (GivesTE false t.r.c t.l 0 w)
    go_enter Try.func21, Try.ntmps21
    go_wp2_with (first | (go_at_call 57; refine HC.out.mono ?_; rintro e w1 ⟨rfl, hb1⟩; (have HB1 := Lib.hid hb1); clear hb1) | (go_at_call 58; refine (HLft.out _ (((Bel.refl _).alloc _).on HB1.out)).mono ?_; rintro e w2 ⟨A2, c2, rfl, hrt, hb2⟩; (obtain ⟨b, off, rfl, _, hc⟩ := hrt.at_ (by simp)); (obtain ⟨d0, d1, d2⟩ := hc 0 t.r rfl); (simp only [Nat.zero_mul, Nat.add_zero] at d0 d1 d2); clear hc hrt; (have HBW := Lib.hid ((((Bel.refl w).alloc _).on HB1.out).on hb2)); (have HB2 := Lib.hid (HB1.out.on hb2)); clear hb2) | (go_at_call 60; refine (copied_any _ _ _ _ _ _ _ (HRI.out.bel HBW.out) HLN.out).mono ?_; rintro e w3 ⟨A3, n3, c3, rfl, hri3, hb3⟩; (have HB3 := Lib.hid hb3); clear hb3; (have HRI3 := Lib.hid hri3); clear hri3; (have HBK := Lib.hid (Bel.blk HB3.out (HB2.out.blk (blk1 _ _)))); (obtain ⟨b0, b1, b2, g0, g1, g2⟩ := cells3 HBK.out)))
    refine bodyPost_ret (v := .tuple #[.agg #[.bool t.r.nv, .int .u8 t.r.c, .slice A3 n3 c3], .int .i64 0]) (by simp [results, Try.results21, go_sem, *]) rfl ⟨_, _, _, by rw [HV.out], ?_, ?_⟩
    · have h := HRI3.out.put3 HBK.out (.bool t.r.nv) (.int .u8 t.r.c) (.slice A3 n3 c3)
      simpa using h
    · exact (HBW.out.on HB3.out).put3 (by simp) _ _ _
  · have hl2 : (t :: t2 :: us).length = us.length + 2 := rfl
    rw [hl2] at hleft hmle ⊢
    obtain ⟨m, hm⟩ : ∃ m, m = us.length + 2 := ⟨_, rfl⟩
    rw [← hm] at hleft hmle ⊢
    have i0 : ((m : Int) == 0) = false := beq_eq_false_iff_ne.2 (by omega)
    have i1 : ((m : Int) == 1) = false := beq_eq_false_iff_ne.2 (by omega)
    rw [decide_eq_false (show ¬ m = 0 by omega)]
    have HLft := Lib.hid hleft
    clear hleft hm hl2
    show Calls _ _ _ _ (GivesTE false 3 [] 0 w)
    go_enter Try.func21, Try.ntmps21
    go_wp2_with (first | (go_at_call 57; refine HC.out.mono ?_; rintro e w1 ⟨rfl, hb1⟩; (have HB1 := Lib.hid hb1); clear hb1) | (go_at_call 58; refine (HLft.out _ (((Bel.refl _).alloc _).on HB1.out)).mono ?_; rintro e w2 ⟨A2, c2, rfl, hrt, hb2⟩; (have HB2 := Lib.hid (HB1.out.on hb2)); clear hb2 hrt; (obtain ⟨b0, b1, b2, g0, g1, g2⟩ := cells3 (HB2.out.blk (blk1 _ _)))))
    refine bodyPost_ret (v := .tuple #[.agg #[.bool false, .int .u8 3, .slice none 0 0], .int .i64 0]) (by simp [results, Try.results21, go_sem, *]) rfl ⟨_, _, _, rfl, RI.nil_, ?_⟩
    exact (((Bel.refl _).alloc _).on HB2.out).put3 (by simp) _ _ _
end Go.Proofs.Ytghoipgldnfjoaa.Mu
