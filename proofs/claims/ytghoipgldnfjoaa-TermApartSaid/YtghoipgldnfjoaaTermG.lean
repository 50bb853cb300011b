/-
  Layer 2's own function Scale.
-/
import Derived.Test.YtghoipgldnfjoaaTermF
import Derived.Deep.RegionHeld3
namespace Go.Proofs.Ytghoipgldnfjoaa.Mu
open Go.ChangeShapes Go.WideShapes Go.ChangeAt Go.RowKit

theorem cells2 {w : World} {g : Nat} {t : TypeId} {x y : Value} (h : w.heap[g]? = some (.cells #[x, y] t (0, 0))) :
    w.cell? ⟨g, 0, none⟩ = some x ∧ w.cell? ⟨g, 1, none⟩ = some y := by
  simp [World.cell?, h]
theorem ri_one (w : World) (v : Int) : RI .i64 (w.alloc (.cells #[.int .i64 v] 3)) (w.heap.size + 1) (some ⟨w.heap.size, 0, none⟩) 1 [v] :=
  ⟨rfl, fun _ => ⟨_, 0, rfl, by omega, fun k hk => by
    obtain rfl : k = 0 := by omega
    simp⟩⟩
def scaleL (v mc c : Int) (l : List Int) : List Int := greatL (max mc c) (if mc = 0 then l ++ [v] else l)

set_option maxRecDepth 100000 in
set_option maxHeartbeats 1000000 in
theorem scaleT_no (v mc : Int) (nv : Bool) (c : Int) (A : Option Addr) (n cap : Nat) (l : List Int) (w : World) (hr : RI .i64 w w.heap.size A n l) (hmax : n ≤ 1000000) (hno : (isB v mc && mayB nv c l) = false) :
    Calls Try.prog 32 #[.agg #[.int .i64 v, .int .u8 mc], .agg #[.bool nv, .int .u8 c, .slice A n cap]] w (GivesTE false 0 [] 2 w) := by
  have HR := Lib.hid hr
  obtain ⟨i, hi⟩ : ∃ i, isB v mc = i := ⟨_, rfl⟩
  obtain ⟨j, hj⟩ : ∃ j, mayB nv c l = j := ⟨_, rfl⟩
  rw [hi, hj] at hno
  have HI : Hid (∀ W, Calls Try.prog 31 #[.agg #[.int .i64 v, .int .u8 mc]] W fun e w' => e = .returned (.int .i64 (errF i)) ∧ Bel W w') := Lib.hid (fun W => by rw [← hi]; exact is_any v mc W)
  have HJ : Hid (∀ W, Bel w W → Calls Try.prog 34 #[.agg #[.bool nv, .int .u8 c, .slice A n cap]] W fun e w' => e = .returned (.int .i64 (errF j)) ∧ Bel W w') := Lib.hid (fun W hb => by rw [← hj]; exact may_any nv c A n cap l W (HR.out.bel hb) (by omega))
  clear hr hi hj
  cases i <;> cases j
  case true.true => cases hno
  all_goals
    have e0 : errF true = 0 := rfl
    have e1 : errF false = 2 := rfl
    simp only [e0, e1] at HI HJ
    clear hno e0 e1
    go_enter Try.func32, Try.ntmps32
    go_wp2_with (first | (go_at_call 31; refine (HI.out _).mono ?_; rintro e w1 ⟨rfl, hb1⟩; (obtain ⟨hk1, hk2, hk3⟩ := blk3 w (.cells #[.int .i64 v, .int .u8 mc] 49) (.cells #[.bool nv, .int .u8 c, .slice A n cap] 33) (.cells #[.bool false, .int .u8 0, .slice none 0 0] 33)); (have HBA := Lib.hid (hb1.blk hk1)); (have HBB := Lib.hid (hb1.blk hk2)); (have HBC := Lib.hid (hb1.blk hk3)); clear hk1 hk2 hk3; (have HB1 := Lib.hid ((((Bel.refl w).alloc _).alloc _).alloc _ |>.on hb1)); clear hb1; (obtain ⟨b0, b1, b2, _, _, _⟩ := cells3 HBB.out); (obtain ⟨c0, c1, c2, f0, f1, f2⟩ := cells3 HBC.out)) | (go_at_call 34; refine (HJ.out _ HB1.out).mono ?_; rintro e w2 ⟨rfl, hb2⟩; (obtain ⟨d0, d1, d2, g0, g1, g2⟩ := cells3 (hb2.blk HBC.out)); (have HB2 := Lib.hid (HB1.out.on hb2)); clear hb2))
    refine bodyPost_ret (v := .tuple #[.agg #[.bool false, .int .u8 0, .slice none 0 0], .int .i64 2]) (by simp [results, Try.results32, go_sem, *]) rfl ⟨_, _, _, rfl, RI.nil_, ?_⟩
    first | exact HB2.out.put3 (by omega) _ _ _ | exact HB1.out.put3 (by omega) _ _ _

def scC (nv : Bool) (mc c : Int) : Int := if nv then 0 else max mc c
def scL (nv : Bool) (v mc c : Int) (l : List Int) : List Int := if nv then [] else scaleL v mc c l

set_option maxRecDepth 100000 in
set_option maxHeartbeats 2000000 in
theorem scaleT_yes (v mc : Int) (nv : Bool) (c : Int) (A : Option Addr) (n cap : Nat) (l : List Int) (w : World) (hr : RI .i64 w w.heap.size A n l) (hmax : n ≤ 1000000) (hi : isB v mc = true) (hj : mayB nv c l = true) :
    Calls Try.prog 32 #[.agg #[.int .i64 v, .int .u8 mc], .agg #[.bool nv, .int .u8 c, .slice A n cap]] w (GivesTE nv (scC nv mc c) (scL nv v mc c l) 0 w) := by
  have HR := Lib.hid hr
  have HI : Hid (∀ W, Calls Try.prog 31 #[.agg #[.int .i64 v, .int .u8 mc]] W fun e w' => e = .returned (.int .i64 0) ∧ Bel W w') := Lib.hid (fun W => by have h := is_any v mc W; rw [hi] at h; exact h)
  have HJ : Hid (∀ W, Bel w W → Calls Try.prog 34 #[.agg #[.bool nv, .int .u8 c, .slice A n cap]] W fun e w' => e = .returned (.int .i64 0) ∧ Bel W w') := Lib.hid (fun W hb => by have h := may_any nv c A n cap l W (HR.out.bel hb) (by omega); rw [hj] at h; exact h)
  clear hr hi hj
  cases nv
  case true =>
    show Calls _ _ _ _ (GivesTE true 0 [] 0 w)
    go_enter Try.func32, Try.ntmps32
    go_wp2_with (first | (go_at_call 31; refine (HI.out _).mono ?_; rintro e w1 ⟨rfl, hb1⟩; (obtain ⟨hk1, hk2, hk3⟩ := blk3 w (.cells #[.int .i64 v, .int .u8 mc] 49) (.cells #[.bool true, .int .u8 c, .slice A n cap] 33) (.cells #[.bool false, .int .u8 0, .slice none 0 0] 33)); (have HBB := Lib.hid (hb1.blk hk2)); (have HBC := Lib.hid (hb1.blk hk3)); clear hk1 hk2 hk3; (have HB1 := Lib.hid ((((Bel.refl w).alloc _).alloc _).alloc _ |>.on hb1)); clear hb1; (obtain ⟨b0, b1, b2, _, _, _⟩ := cells3 HBB.out)) | (go_at_call 34; refine (HJ.out _ HB1.out).mono ?_; rintro e w2 ⟨rfl, hb2⟩; (obtain ⟨d0, d1, d2, g0, g1, g2⟩ := cells3 (hb2.blk HBC.out)); (obtain ⟨e0, e1, e2, _, _, _⟩ := cells3 (hb2.blk HBB.out)); (have HB2 := Lib.hid (HB1.out.on hb2)); clear hb2))
    refine bodyPost_ret (v := .tuple #[.agg #[.bool true, .int .u8 0, .slice none 0 0], .int .i64 0]) (by simp [results, Try.results32, go_sem, *]) rfl ⟨_, _, _, rfl, RI.nil_, ?_⟩
    exact HB2.out.put3 (by omega) _ _ _
  case false =>
    show Calls _ _ _ _ (GivesTE false (max mc c) (scaleL v mc c l) 0 w)
    by_cases hm : mc = 0
    · subst hm
      have E : Hid (scaleL v 0 c l = greatL (max 0 c) (l ++ [v])) := Lib.hid (by unfold scaleL; rw [if_pos rfl])
      rw [E.out]
      go_enter Try.func32, Try.ntmps32
      go_wp2_with (first | (go_at_call 31; refine (HI.out _).mono ?_; rintro e w1 ⟨rfl, hb1⟩; (obtain ⟨hk1, hk2, hk3⟩ := blk3 w (.cells #[.int .i64 v, .int .u8 0] 49) (.cells #[.bool false, .int .u8 c, .slice A n cap] 33) (.cells #[.bool false, .int .u8 0, .slice none 0 0] 33)); (have HBA := Lib.hid (hb1.blk hk1)); (have HBB := Lib.hid (hb1.blk hk2)); (have HBC := Lib.hid (hb1.blk hk3)); clear hk1 hk2 hk3; (have HB1 := Lib.hid ((((Bel.refl w).alloc _).alloc _).alloc _ |>.on hb1)); clear hb1; (obtain ⟨b0, b1, b2, _, _, _⟩ := cells3 HBB.out)) | (go_at_call 34; refine (HJ.out _ HB1.out).mono ?_; rintro e w2 ⟨rfl, hb2⟩; (have HCA := Lib.hid (hb2.blk HBA.out)); (have HCB := Lib.hid (hb2.blk HBB.out)); (have HCC := Lib.hid (hb2.blk HBC.out)); (obtain ⟨e0, e1, e2, _, _, _⟩ := cells3 HCB.out); (have HB2 := Lib.hid (HB1.out.on hb2)); clear hb2) | (go_at_call 35; refine (clone_any _ _ _ _ _ (HR.out.bel HB2.out) (by omega)).mono ?_; rintro e w3 ⟨A3, c3, rfl, hown3, hb3⟩; (have HO3 := Lib.hid hown3); clear hown3; (obtain ⟨p0, p1⟩ := cells2 (hb3.blk HCA.out)); (obtain ⟨q0, q1, q2, _, _, _⟩ := cells3 (hb3.blk HCB.out)); (have HB3 := Lib.hid hb3); clear hb3) | (at_builtin; refine wpList_append_ri rfl _ _ 31 rfl w2.heap.size 3 Try.underlying31 info_int A3 n c3 l rfl (HO3.out.alloc _) (w3.heap.size + 1) (some ⟨w3.heap.size, 0, none⟩) 1 1 [v] rfl (ri_one w3 v) (by omega) (by have := HB3.out.size; simp; omega) ?_; intro V4 cv4 w4 hown4 hg4; (have HB4 := Lib.hid (show Bel w2 w4 from Below.trans HB3.out (((Below.refl _ _).alloc HB3.out.size _).grown hg4 (by have := HB3.out.size; simp; omega) (fun g hg => (HO3.out.lt g hg).1)))); (have HO4 := Lib.hid hown4); clear hown4 hg4; (obtain ⟨r0, r1⟩ := cells2 (HB4.out.blk HCA.out)); (obtain ⟨s0, s1, s2, _, _, _⟩ := cells3 (HB4.out.blk HCB.out))) | (go_at_call 59; refine (greatest_any _ _ _ _ w2.heap.size _ _ HO4.out HB4.out.size (by omega)).mono ?_; rintro e w5 ⟨A5, n5, c5, rfl, hri5, hb5⟩; (have HB5 := Lib.hid (show Bel w2 w5 from Below.trans HB4.out hb5)); clear hb5; (have HRI5 := Lib.hid hri5); clear hri5; (have HBK := Lib.hid (HB5.out.blk HCC.out)); (obtain ⟨u0, u1, u2, g0, g1, g2⟩ := cells3 HBK.out)))
      refine bodyPost_ret (v := .tuple #[.agg #[.bool false, .int .u8 (max 0 c), .slice A5 n5 c5], .int .i64 0]) (by simp [results, Try.results32, go_sem, *]) rfl ⟨_, _, _, rfl, ?_, ?_⟩
      · have h := HRI5.out.put3 HBK.out (.bool false) (.int .u8 (max 0 c)) (.slice A5 n5 c5)
        simpa using h
      · exact (HB2.out.on HB5.out).put3 (by omega) _ _ _
    · have e3 : (mc == 0) = false := by simpa using hm
      have E : Hid (scaleL v mc c l = greatL (max mc c) l) := Lib.hid (by unfold scaleL; rw [if_neg hm])
      clear hm
      rw [E.out]
      go_enter Try.func32, Try.ntmps32
      go_wp2_with (first | (go_at_call 31; refine (HI.out _).mono ?_; rintro e w1 ⟨rfl, hb1⟩; (obtain ⟨hk1, hk2, hk3⟩ := blk3 w (.cells #[.int .i64 v, .int .u8 mc] 49) (.cells #[.bool false, .int .u8 c, .slice A n cap] 33) (.cells #[.bool false, .int .u8 0, .slice none 0 0] 33)); (have HBA := Lib.hid (hb1.blk hk1)); (have HBB := Lib.hid (hb1.blk hk2)); (have HBC := Lib.hid (hb1.blk hk3)); clear hk1 hk2 hk3; (have HB1 := Lib.hid ((((Bel.refl w).alloc _).alloc _).alloc _ |>.on hb1)); clear hb1; (obtain ⟨b0, b1, b2, _, _, _⟩ := cells3 HBB.out)) | (go_at_call 34; refine (HJ.out _ HB1.out).mono ?_; rintro e w2 ⟨rfl, hb2⟩; (have HCA := Lib.hid (hb2.blk HBA.out)); (have HCB := Lib.hid (hb2.blk HBB.out)); (have HCC := Lib.hid (hb2.blk HBC.out)); (obtain ⟨e0, e1, e2, _, _, _⟩ := cells3 HCB.out); (have HB2 := Lib.hid (HB1.out.on hb2)); clear hb2) | (go_at_call 35; refine (clone_any _ _ _ _ _ (HR.out.bel HB2.out) (by omega)).mono ?_; rintro e w3 ⟨A3, c3, rfl, hown3, hb3⟩; (have HO3 := Lib.hid hown3); clear hown3; (obtain ⟨p0, p1⟩ := cells2 (hb3.blk HCA.out)); (obtain ⟨q0, q1, q2, _, _, _⟩ := cells3 (hb3.blk HCB.out)); (have HB3 := Lib.hid hb3); clear hb3) | (go_at_call 59; refine (greatest_any _ _ _ _ w2.heap.size _ _ HO3.out HB3.out.size (by omega)).mono ?_; rintro e w5 ⟨A5, n5, c5, rfl, hri5, hb5⟩; (have HB5 := Lib.hid (show Bel w2 w5 from Below.trans HB3.out hb5)); clear hb5; (have HRI5 := Lib.hid hri5); clear hri5; (have HBK := Lib.hid (HB5.out.blk HCC.out)); (obtain ⟨u0, u1, u2, g0, g1, g2⟩ := cells3 HBK.out)))
      refine bodyPost_ret (v := .tuple #[.agg #[.bool false, .int .u8 (max mc c), .slice A5 n5 c5], .int .i64 0]) (by simp [results, Try.results32, go_sem, *]) rfl ⟨_, _, _, rfl, ?_, ?_⟩
      · have h := HRI5.out.put3 HBK.out (.bool false) (.int .u8 (max mc c)) (.slice A5 n5 c5)
        simpa using h
      · exact (HB2.out.on HB5.out).put3 (by omega) _ _ _
end Go.Proofs.Ytghoipgldnfjoaa.Mu
