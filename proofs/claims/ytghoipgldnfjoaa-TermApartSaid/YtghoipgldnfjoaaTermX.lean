/-
  The statements' own first question of layer 2.
-/
import Derived.Test.YtghoipgldnfjoaaTermW
import Derived.Deep.RegionHeld3
namespace Go.Proofs.Ytghoipgldnfjoaa.Mu
open Go.ChangeShapes Go.WideShapes Go.ChangeAt Go.RowKit

theorem ri_two (w : World) (x y : Int) : RI .u8 (w.alloc (.cells #[.int .u8 x, .int .u8 y] 30)) (w.alloc (.cells #[.int .u8 x, .int .u8 y] 30)).heap.size (some ⟨w.heap.size, 0, none⟩) 2 [x, y] :=
  ⟨rfl, fun _ => ⟨_, 0, rfl, by simp, fun k hk => by
    match k, hk with
    | 0, _ => simp
    | 1, _ => simp⟩⟩

set_option maxRecDepth 100000 in
set_option maxHeartbeats 1000000 in
theorem works2_any (w : World) : Calls Try.prog 19 #[] w fun e w' => e = .returned (.bool true) ∧ Bel w w' := by
  have y1 : mayB false 1 [1] = true := by decide +kernel
  have y2 : mayB true 0 [] = true := by decide +kernel
  have z1 : j2C false true 1 0 = 2 := by decide +kernel
  have z2 : j2L false true 1 0 [1] [] = [1] := srt_rising (by simp)
  have z3 : atR false 2 [1] [1, 3] = 3 := by decide +kernel
  have z4 : atE false 2 [1] [1, 3] = 0 := by decide +kernel
  have Y1 := Lib.hid y1
  have Y2 := Lib.hid y2
  have Z1 := Lib.hid z1
  have Z2 := Lib.hid z2
  have Z3 := Lib.hid z3
  have Z4 := Lib.hid z4
  clear y1 y2 z1 z2 z3 z4
  have HJ : Hid (∀ (W : World) (A : Option Addr) (n k cap g : Nat), g = W.heap.size → RI .i64 W W.heap.size A n [1] → Calls Try.prog 20 #[.slice (some ⟨g, 0, none⟩) 2 cap] (W.alloc (.cells #[.bool false, .int .u8 1, .slice A n k, .bool true, .int .u8 0, .slice none 0 0] 33)) (GivesTE false 2 [1] 0 (W.alloc (.cells #[.bool false, .int .u8 1, .slice A n k, .bool true, .int .u8 0, .slice none 0 0] 33)))) :=
    Lib.hid fun W A n k cap g hg hr => by
      have h := join2_ok false true 1 0 A none n k 0 0 cap g [1] [] W hg hr RI.nil_ (by have := hr.len; simp at this; omega) Y1.out Y2.out
      rw [Z1.out, Z2.out] at h
      exact h
  have HAT : Hid (∀ (W : World) (A : Option Addr) (n k g : Nat), g = W.heap.size → RI .i64 W W.heap.size A n [1] → Calls Try.prog 26 #[.agg #[.bool false, .int .u8 2, .slice A n k], .slice (some ⟨g, 0, none⟩) 2 2] (W.alloc (.cells #[.int .u8 1, .int .u8 3] 30)) (Tells2 3 0 (W.alloc (.cells #[.int .u8 1, .int .u8 3] 30)))) :=
    Lib.hid fun W A n k g hg hr => by
      subst hg
      have h := at_any false 2 A (some ⟨W.heap.size, 0, none⟩) n k 2 2 [1] [1, 3] (W.alloc (.cells #[.int .u8 1, .int .u8 3] 30)) (hr.alloc _) (ri_two W 1 3) (by have := hr.len; simp at this; omega) (by omega)
      rw [Z3.out, Z4.out] at h
      exact h
  go_enter Try.func19, Try.ntmps19
  go_wp2_with (first | (go_at_call 30; refine (some_any _ _ _ _ _).mono ?_; rintro e w1 ⟨rfl, hb1⟩; (have HB1 := Lib.hid hb1); clear hb1) | (go_at_call 20; refine (HJ.out _ _ _ _ _ _ (by simp) (((ri_one _ _).lt (by simp)).bel HB1.out)).mono ?_; rintro e w2 ⟨A2, n2, c2, rfl, hri, hb2⟩; (have HRI := Lib.hid hri); clear hri; (have HB2 := Lib.hid hb2); clear hb2) | (go_at_call 26; refine (HAT.out _ _ _ _ _ (by simp) (HRI.out.alloc _)).mono ?_; rintro e w3 ⟨rfl, hb3⟩; (obtain ⟨hq, _⟩ := blk2 w2 (.cells #[.bool false, .int .u8 2, .slice A2 n2 c2] 33) (.cells #[.int .u8 1, .int .u8 3] 30)); (obtain ⟨a0, a1, a2, _, _, _⟩ := cells3 (hb3.blk hq)); clear hq; (have HB3 := Lib.hid hb3); clear hb3))
  have hz3 : w2.heap.size < w3.heap.size := by have := HB3.out.size; simp at this; omega
  go_region_held3 (fun w' => w'.cell? ⟨w2.heap.size, 0, none⟩ = some (.bool false) ∧ w'.cell? ⟨w2.heap.size, 1, none⟩ = some (.int .u8 2) ∧ w'.cell? ⟨w2.heap.size, 2, none⟩ = some (.slice A2 n2 c2)) (go_keep)
    (first | (go_at_call 30; refine (some_any _ _ _ _ _).mono ?_; rintro e w4 ⟨rfl, hb4⟩; (have HB5 := Lib.hid hb4); (have HB4 := Lib.hid (show Bel w3 w4 from ((Bel.refl w3).alloc _).drew.on hb4)); clear hb4; (have k0 := (HB4.out.cell (p := ⟨w2.heap.size, 0, none⟩) hz3).trans a0); (have k1 := (HB4.out.cell (p := ⟨w2.heap.size, 1, none⟩) hz3).trans a1); (have k2 := (HB4.out.cell (p := ⟨w2.heap.size, 2, none⟩) hz3).trans a2)) | (go_at_call 37; refine (same_any _ _ _ _ _ _ _ _ _ _ [1] [1] _ (by exact (HRI.out.bel ((((Bel.refl w2).alloc _).alloc _).on HB3.out)).bel HB4.out) (by exact RI.bel (w := (w3.alloc _).drew) ((ri_one w3 1).lt (by simp)) HB5.out) (by have := HRI.out.len; simp at this; omega) (by omega)).mono ?_; rintro e w5 ⟨rfl, hb5⟩; (have k0 := (hb5.cell (p := ⟨w2.heap.size, 0, none⟩) (by have := HB4.out.size; simp; omega)).trans k0); (have k1 := (hb5.cell (p := ⟨w2.heap.size, 1, none⟩) (by have := HB4.out.size; simp; omega)).trans k1); (have k2 := (hb5.cell (p := ⟨w2.heap.size, 2, none⟩) (by have := HB4.out.size; simp; omega)).trans k2); (have HB6 := Lib.hid hb5); clear hb5))
  go_wp2
  go_ret
  have c1 : Bel w w1 := ((Bel.refl w).alloc _).on HB1.out
  have c2 : Bel w w2 := (c1.alloc _).on HB2.out
  have c3 : Bel w w3 := ((c2.alloc _).alloc _).on HB3.out
  have c4 : Bel w w4 := c3.on HB4.out
  exact ⟨rfl, by first | exact c4.on HB6.out | exact c4.drew.on HB6.out⟩
end Go.Proofs.Ytghoipgldnfjoaa.Mu
