/-
  The statement MultOps: walked; what the table of texts holds is a premise.
-/
import Derived.Test.YtjbnmfgmkcgglaaDoorMultTable
import Derived.Test.YtjbnmfgmkcgglaaDoorMultMore
import Derived.Test.YtjbnmfgmkcgglaaDoorRef01Join
import Derived.Test.YtjbnmfgmkcgglaaDoorRef01Scale
namespace Go.Proofs.YtjbnmfgmkcgglaaDoor.Mu
open Go.ChangeShapes Go.WideShapes Go.ChangeAt Go.RowKit

theorem Table.on {w w' : World} (h : Table w) (hw : 0 < w.heap.size) (hf : Fresh w w') : Table w' := by
  obtain ⟨a, b, c⟩ := h
  exact ⟨(hf.2.cell (p := ⟨0, 0, none⟩) hw).trans a, (hf.2.cell (p := ⟨0, 1, none⟩) hw).trans b, (hf.2.cell (p := ⟨0, 2, none⟩) hw).trans c⟩

set_option maxRecDepth 100000 in
set_option maxHeartbeats 4000000 in
theorem multOps_any (a b m : Int) (h0 : 0 ≤ m) (h1 : m ≤ 255) (w : World) (ht : Table w) (hw : 0 < w.heap.size) : Calls Tryd.prog 4 #[.int .u8 a, .int .u8 b, .int .u8 m] w fun e w' => e = .returned (.bool true) ∧ Fresh w w' := by
  have HT := Lib.hid ht
  have HF := Lib.hid (Fresh.refl w)
  clear ht
  obtain ⟨r, er⟩ : ∃ r, leastMF a = r := ⟨_, rfl⟩
  have f3 : fitsF a 3 = true := by rw [fitsF_c]; rcases cu_cases a with e | e | e | e <;> rw [e] <;> decide +kernel
  rcases Bool.eq_false_or_eq_true (fitsF a 1) with g1 | g1 <;> rcases Bool.eq_false_or_eq_true (fitsF a 2) with g2 | g2
  all_goals
    simp only [leastMF, g1, g2, if_true, if_false, Bool.false_eq_true] at er
    have hr : leastMF a = r := by simp only [leastMF, g1, g2, if_true, if_false, Bool.false_eq_true]; exact er
    subst er
    go_enter Tryd.func4, Tryd.ntmps4
    go_wp2_with (first | (go_at_call 8; refine (join_two _ _ _ _ _ (by simp)).mono ?_; rintro e w' ⟨rfl, rfl⟩) | (go_at_call 9; refine (sum_two _ _ _ _ _ (by simp)).mono ?_; rintro e w' ⟨rfl, rfl⟩) | (go_at_call 10; refine (scale_any _ _ h0 h1 _).mono ?_; rintro e w' ⟨rfl, rfl⟩) | (go_at_call 11; refine (fits_any _ _ h0 h1 _).mono ?_; rintro e w' ⟨rfl, rfl⟩) | (go_at_call 16; refine (least_any _ _).mono ?_; rintro e w' ⟨rfl, rfl⟩) | (go_at_call 17; refine (text_any _ h0 h1 _ (HT.out.on hw HF.out)).mono ?_; rintro e w' ⟨rfl, rfl⟩) | (go_at_call 12; refine (fits_ref _ _ (by omega) (by omega) _).mono ?_; rintro e w' ⟨rfl, rfl⟩) | (go_at_call 13; refine (join_ref _ _ _).mono ?_; rintro e w1 ⟨rfl, hf⟩; (have HF1 : Hid (Fresh w w1) := by first | exact Lib.hid (HF.out.on hf) | exact Lib.hid ((HF.out.alloc _ _).on hf)); clear hf HF; have HF := HF1; clear HF1) | (go_at_call 14; refine (sum_ref _ _ _).mono ?_; rintro e w1 ⟨rfl, hf⟩; (have HF1 : Hid (Fresh w w1) := by first | exact Lib.hid (HF.out.on hf) | exact Lib.hid ((HF.out.alloc _ _).on hf)); clear hf HF; have HF := HF1; clear HF1) | (go_at_call 15; refine (scale_ref _ _ h0 h1 _).mono ?_; rintro e w1 ⟨rfl, hf⟩; (have HF1 : Hid (Fresh w w1) := by first | exact Lib.hid (HF.out.on hf) | exact Lib.hid ((HF.out.alloc _ _).on hf)); clear hf HF; have HF := HF1; clear HF1) | (go_at_call 18; refine (text_ref _ h0 h1 _).mono ?_; rintro e w' ⟨rfl, rfl⟩) | (go_at_call 7; refine (works_fresh _).mono ?_; rintro e w5 ⟨rfl, hg⟩) | (refine wp_loop_rounds 5 ?_; rw [rounds_succ]) | rw [rounds_succ])
    go_ret
    exact ⟨rfl, HF.out.on hg⟩
end Go.Proofs.YtjbnmfgmkcgglaaDoor.Mu
