/-
  Layer 2's own functions that sort, copy and compare: greatest, copied, Least, Same.
-/
import Derived.Test.YtghoipgldnfjoaaTermA
import Derived.Test.YtghoipgldnfjoaaLib
import Derived.Test.YtghoipgldnfjoaaMemB
namespace Go.Proofs.Ytghoipgldnfjoaa.Mu
open Go.ChangeShapes Go.WideShapes Go.ChangeAt Go.RowKit

theorem greatest_any (c : Int) (A : Option Addr) (n cap base : Nat) (l : List Int) (w : World) (hown : w.ownsRow base 3 1 (.slice A n cap) n (l.map (Value.int .i64))) (hbase : base ≤ w.heap.size) (hmax : n ≤ 1000000000) :
    Calls Try.prog 59 #[.int .u8 c, .slice A n cap] w (GivesT false c (greatL c l) base w) := by
  have HO := Lib.hid hown
  clear hown
  have HK : Hid (∀ k, (Value.slice A n cap).ownBlock = some k → base ≤ k ∧ k < w.heap.size) := Lib.hid HO.out.lt
  have HN : Hid (some w.heap.size ≠ (Value.slice A n cap).ownBlock) := Lib.hid (fun e => by have := (HK.out _ e.symm).2; omega)
  by_cases h3 : c = 3
  · subst h3
    go_enter Try.func59, Try.ntmps59
    go_wp2
    exact bodyPost_ret (v := .agg #[.bool false, .int .u8 3, .slice none 0 0]) (by simp [results, Try.results59, go_sem]) rfl ⟨_, _, _, rfl, RI.nil_, (Below.refl _ _).alloc hbase _⟩
  · have e3 : (c == 3) = false := by simpa using h3
    have E : Hid (greatL c l = srt l) := Lib.hid (if_neg h3)
    clear h3
    go_enter Try.func59, Try.ntmps59
    go_wp2_with (first | (go_at_call 83; refine (sort_any _ _ _ _ _ _ (HO.out.alloc _) hmax).mono ?_; rintro e w1 ⟨rfl, hs, hg1⟩; (obtain ⟨ca1, cb1⟩ := far hg1 (b := w.heap.size) (by simp) HN.out); (have HS := Lib.hid hs); clear hs; (have HG1 := Lib.hid hg1); clear hg1) | (go_at_call 84; refine (compact_any _ _ _ _ _ _ HS.out hmax).mono ?_; rintro e w2 ⟨rfl, hs2, hg2⟩; (obtain ⟨ca2, cb2⟩ := far hg2 (b := w.heap.size) (by have := HG1.out.size; simp at this; omega) HN.out); (have HS2 := Lib.hid hs2); clear hs2; (have HG2 := Lib.hid hg2); clear hg2))
    refine bodyPost_ret (v := .agg #[.bool false, .int .u8 c, .slice A (srt l).length cap]) (by simp [results, Try.results59, go_sem, srt, *]) rfl ⟨_, _, _, rfl, ?_, ?_⟩
    · rw [E.out]
      have h := RI.of_own_lt HS2.out (B := w.heap.size) (fun k hk => (HK.out k ((own_same _ _ _ _ _).symm.trans hk)).2)
      exact (((h.set_ (by simp) _).set_ (by simp) _).set_ (by simp) _).more (by have := HG2.out.size; have := HG1.out.size; simp at *; omega)
    · exact ((((((Below.refl _ _).alloc hbase _).grown HG1.out (by simp; omega) (fun k hk => (HK.out k hk).1)).grown HG2.out (by have := HG1.out.size; simp at *; omega) (fun k hk => (HK.out k hk).1)).setCell (by simpa using hbase) _).setCell (by simpa using hbase) _).setCell (by simpa using hbase) _

theorem copied_any (nv : Bool) (c : Int) (A : Option Addr) (n cap : Nat) (l : List Int) (w : World) (hr : RI .i64 w w.heap.size A n l) (hmax : n ≤ 1000000000) :
    Calls Try.prog 60 #[.agg #[.bool nv, .int .u8 c, .slice A n cap]] w (GivesT nv c l w.heap.size w) := by
  have HR := Lib.hid hr
  clear hr
  go_enter Try.func60, Try.ntmps60
  go_wp2_with (go_at_call 35; refine (clone_any _ _ _ _ _ ((HR.out.alloc _).alloc _) hmax).mono ?_; rintro e w1 ⟨A', c', rfl, hown, hb⟩; (obtain ⟨a0, a1, a2, f0, f1, f2⟩ := cells3 (hb.blk (blk2 _ _ _).1)); (obtain ⟨b0, b1, b2, g0, g1, g2⟩ := cells3 (hb.blk (blk2 _ _ _).2)); (have HO := Lib.hid hown); clear hown; (have hz : w.heap.size + 1 < w1.heap.size := by have := hb.size; simp at this; omega); (have HB := Lib.hid hb); clear hb)
  refine bodyPost_ret (v := .agg #[.bool nv, .int .u8 c, .slice A' n c']) (by simp [results, Try.results60, go_sem, *]) rfl ⟨_, _, _, rfl, ?_, ?_⟩
  · refine RI.of_own (base := ((w.alloc (.cells #[.bool nv, .int .u8 c, .slice A n cap] 33)).alloc (.cells #[.bool false, .int .u8 0, .slice none 0 0] 33)).heap.size) (e := 3) (c := c') ?_
    repeat (refine ownsRow_setCell_below ?_ (by simp; try omega) _)
    exact HO.out
  · show Bel w _
    repeat (refine Bel.set_ ?_ (by simp) _)
    exact (((Bel.refl _).alloc _).alloc _).on HB.out

def leastV (_ : Bool) : Bool := false
def leastC (nv : Bool) (c : Int) : Int := if nv then 2 else c
def leastL (nv : Bool) (l : List Int) : List Int := if nv then [] else l
theorem least2_any (nv : Bool) (c : Int) (A : Option Addr) (n cap : Nat) (l : List Int) (w : World) (hr : RI .i64 w w.heap.size A n l) (hmax : n ≤ 1000000000) :
    Calls Try.prog 29 #[.agg #[.bool nv, .int .u8 c, .slice A n cap]] w (GivesT (leastV nv) (leastC nv c) (leastL nv l) w.heap.size w) := by
  have HR := Lib.hid hr
  clear hr
  cases nv
  · show Calls _ _ _ _ (GivesT false c l w.heap.size w)
    go_enter Try.func29, Try.ntmps29
    go_wp2_with (go_at_call 60; refine (copied_any _ _ _ _ _ _ _ ((HR.out.alloc _).alloc _) hmax).mono ?_; rintro e w1 ⟨A', n', c', rfl, hri, hb⟩; (have HK := Lib.hid (Bel.blk hb (blk2 _ _ _).2)); (obtain ⟨b0, b1, b2, g0, g1, g2⟩ := cells3 HK.out); (have HO := Lib.hid hri); clear hri; (have hz : w.heap.size + 1 < w1.heap.size := by have := hb.size; simp at this; omega); (have HB := Lib.hid hb); clear hb)
    refine bodyPost_ret (v := .agg #[.bool false, .int .u8 c, .slice A' n' c']) (by simp [results, Try.results29, go_sem, *]) rfl ⟨_, _, _, rfl, ?_, ?_⟩
    · have h := HO.out.put3 HK.out (.bool false) (.int .u8 c) (.slice A' n' c')
      simpa using h
    · show Bel w _
      exact ((((Bel.refl _).alloc _).alloc _).on HB.out).put3 (by omega) _ _ _
  · show Calls _ _ _ _ (GivesT false 2 [] w.heap.size w)
    go_enter Try.func29, Try.ntmps29
    have f0 : leastMF 0 = 2 := by decide +kernel
    go_wp2_with (go_at_call 64; refine (least_any _ _).mono ?_; rintro e w1 ⟨rfl, rfl⟩)
    exact bodyPost_ret (v := .agg #[.bool false, .int .u8 2, .slice none 0 0]) (by simp [results, Try.results29, go_sem]) rfl ⟨_, _, _, rfl, RI.nil_, ((Bel.refl _).alloc _).alloc _⟩

theorem same_any (nv1 nv2 : Bool) (c1 c2 : Int) (A B : Option Addr) (n m k j : Nat) (l1 l2 : List Int) (w : World) (h1 : RI .i64 w w.heap.size A n l1) (h2 : RI .i64 w w.heap.size B m l2) (hn : n ≤ 1000000000) (hm : m ≤ 1000000000) :
    Calls Try.prog 37 #[.agg #[.bool nv1, .int .u8 c1, .slice A n k], .agg #[.bool nv2, .int .u8 c2, .slice B m j]] w fun e w' => e = .returned (.bool (decide (nv1 = nv2) && decide (c1 = c2) && decide (l1 = l2))) ∧ Bel w w' := by
  have H1 := Lib.hid h1
  clear h1
  have H2 := Lib.hid h2
  clear h2
  rcases Bool.eq_false_or_eq_true (decide (c1 = c2)) with hc | hc <;> rcases Bool.eq_false_or_eq_true (decide (l1 = l2)) with hl | hl <;> cases nv1 <;> cases nv2
  all_goals
    have HC := Lib.hid hc
    have HL := Lib.hid hl
    clear hc hl
    go_enter Try.func37, Try.ntmps37
    go_wp2_with (go_at_call 44; refine (equal_any _ _ _ _ _ _ _ _ _ ((H1.out.alloc _).alloc _) ((H2.out.alloc _).alloc _) hn hm).mono ?_; rintro e w1 ⟨rfl, hb⟩)
  all_goals
    go_ret
    refine ⟨ret_bool ?_, ?_⟩
    · have hc := HC.out
      have hl := HL.out
      clear H1 H2 HC HL
      simp_all
    · first | exact (((Bel.refl _).alloc _).alloc _).on hb | exact ((Bel.refl _).alloc _).alloc _
end Go.Proofs.Ytghoipgldnfjoaa.Mu
