/-
  The document's own answer for layer 1's Scale, walked: twelve cases.
-/
import Derived.Test.YtjbnmfgmkcgglaaDoorRef01More
import Derived.Test.YtjbnmfgmkcgglaaDoorRef01Sum
namespace Go.Proofs.YtjbnmfgmkcgglaaDoor.Mu
open Go.ChangeShapes Go.WideShapes Go.ChangeAt Go.RowKit
set_option linter.unusedVariables false      -- not every case needs every fact

/-- Sum, with a block of the caller's own that stays as it was. -/
theorem sum_own (g : Nat) (a b : Int) (w : World) (hg : g < w.heap.size) : Calls Tryd.prog 14 #[.int .u8 a, .int .u8 b] w fun e w' => e = .returned (.int .u8 (sumF [a, b])) ∧ g < w'.heap.size ∧ (∀ o, w'.cell? ⟨g, o, none⟩ = w.cell? ⟨g, o, none⟩) ∧ (∀ o, w'.frozen? ⟨g, o, none⟩ = w.frozen? ⟨g, o, none⟩) ∧ Fresh w w' :=
  (sum_ref a b w).mono fun _ _ ⟨he, hf⟩ => ⟨he, by have := hf.2.size; omega, fun o => hf.2.cell (p := ⟨g, o, none⟩) hg, fun o => hf.2.frozen (p := ⟨g, o, none⟩) hg, hf⟩

/-- Four cells of the caller's own, and that they may be written. -/
def Own4 (w : World) (g : Nat) (b0 b1 b2 b3 : Bool) : Prop :=
  (w.cell? ⟨g, 0, none⟩ = some (.bool b0) ∧ w.cell? ⟨g, 1, none⟩ = some (.bool b1) ∧ w.cell? ⟨g, 2, none⟩ = some (.bool b2) ∧ w.cell? ⟨g, 3, none⟩ = some (.bool b3)) ∧
  w.frozen? ⟨g, 0, none⟩ = false ∧ w.frozen? ⟨g, 1, none⟩ = false ∧ w.frozen? ⟨g, 2, none⟩ = false ∧ w.frozen? ⟨g, 3, none⟩ = false

theorem own4_mk {w : World} {g : Nat} {b0 b1 b2 b3 : Bool} (h0 : w.cell? ⟨g, 0, none⟩ = some (.bool b0)) (h1 : w.cell? ⟨g, 1, none⟩ = some (.bool b1)) (h2 : w.cell? ⟨g, 2, none⟩ = some (.bool b2)) (h3 : w.cell? ⟨g, 3, none⟩ = some (.bool b3))
    (f0 : w.frozen? ⟨g, 0, none⟩ = false) (f1 : w.frozen? ⟨g, 1, none⟩ = false) (f2 : w.frozen? ⟨g, 2, none⟩ = false) (f3 : w.frozen? ⟨g, 3, none⟩ = false) : Own4 w g b0 b1 b2 b3 := ⟨⟨h0, h1, h2, h3⟩, f0, f1, f2, f3⟩
set_option maxRecDepth 100000 in
set_option maxHeartbeats 4000000 in
theorem scale_10 (m u : Int) (h0 : 0 ≤ m) (h1 : m ≤ 255) (y : knownF m = 1) (x : cu u = 0) (a0 : letsF u 0 = true) (a1 : letsF u 1 = false) (a2 : letsF u 2 = false) (a3 : letsF u 3 = false) (w : World) :
    Calls Tryd.prog 15 #[.int .u8 m, .int .u8 u] w fun e w' => e = .returned (.int .u8 (scaleF m u)) ∧ Fresh w w' := by
  have E := Lib.hid (scaleF_c m u)
  have c00 : letsF 0 0 = true := rfl
  have c01 : letsF 0 1 = false := rfl
  have c02 : letsF 0 2 = false := rfl
  have c03 : letsF 0 3 = false := rfl
  have c10 : letsF 1 0 = false := rfl
  have c11 : letsF 1 1 = true := rfl
  have c12 : letsF 1 2 = false := rfl
  have c13 : letsF 1 3 = false := rfl
  have c20 : letsF 2 0 = true := rfl
  have c21 : letsF 2 1 = true := rfl
  have c22 : letsF 2 2 = false := rfl
  have c23 : letsF 2 3 = false := rfl
  have c30 : letsF 3 0 = true := rfl
  have c31 : letsF 3 1 = true := rfl
  have c32 : letsF 3 2 = true := rfl
  have c33 : letsF 3 3 = true := rfl
  have s0 : sumF [0, u] = 0 := by rw [sum_tab, x]; rfl
  have X := Lib.hid x
  have Y := Lib.hid y
  clear x
  go_enter Tryd.func15, Tryd.ntmps15
  go_wp2
  go_loopw [6] (fun t wr => ∃ k : Nat, t = .int .i64 k ∧ (k = 0 ∧ Own4 wr w.heap.size false false false false ∨ k = 1 ∧ Own4 wr w.heap.size false false false false ∨ k = 2 ∧ Own4 wr w.heap.size true false false false ∨ k = 3 ∧ Own4 wr w.heap.size true false false false ∨ k = 4 ∧ Own4 wr w.heap.size true false false false) ∧ Hid (Fresh w wr) ∧ w.heap.size < wr.heap.size) (fun t _ => 4 - (intOf t).toNat)
  case atStart => exact ⟨0, rfl, .inl ⟨rfl, own4_mk (by simp) (by simp) (by simp) (by simp) (by simp) (by simp) (by simp) (by simp)⟩, Lib.hid ((Fresh.refl _).alloc _ _), by simp⟩
  case round =>
    obtain ⟨k, rfl, hk, HF, hlt⟩ := hrel
    rcases hk with ⟨rfl, ⟨q0, q1, q2, q3⟩, z0, z1, z2, z3⟩ | ⟨rfl, ⟨q0, q1, q2, q3⟩, z0, z1, z2, z3⟩ | ⟨rfl, ⟨q0, q1, q2, q3⟩, z0, z1, z2, z3⟩ | ⟨rfl, ⟨q0, q1, q2, q3⟩, z0, z1, z2, z3⟩ | ⟨rfl, ⟨q0, q1, q2, q3⟩, z0, z1, z2, z3⟩
    · go_wp2_with (first | (go_at_call 23; refine (lets_ref _ _ _).mono ?_; rintro e w' ⟨rfl, rfl⟩) | (go_at_call 24; refine (of_ref _ (by omega) (by omega) _).mono ?_; rintro e w' ⟨rfl, rfl⟩) | (go_at_call 14; refine (sum_own w.heap.size _ _ _ (by assumption)).mono ?_; rintro e w1 ⟨rfl, hlt, hk1, hz1, hf1⟩; have HF := Lib.hid (HF.out.on hf1); clear hf1) | (go_at_call 25; refine (least_ref _ _ _ _ _).mono ?_; rintro e w' ⟨rfl, hf⟩) | rw [rounds_succ] | refine wp_loop_rounds 6 ?_)
      go_roundw
      case rel => refine ⟨1, by go_num, .inr (.inl ⟨rfl, ?_⟩), ?_, ?_⟩ <;> first | exact own4_mk (by go_simp) (by go_simp) (by go_simp) (by go_simp) (by go_simp) (by go_simp) (by go_simp) (by go_simp) | (simp; done) | (simpa using hlt) | exact Lib.hid (by repeat (first | with_reducible exact HF.out | with_reducible refine Fresh.set_ ?_ (Nat.le_refl _) _))
      case measure => simp [intOf]
    · go_wp2_with (first | (go_at_call 23; refine (lets_ref _ _ _).mono ?_; rintro e w' ⟨rfl, rfl⟩) | (go_at_call 24; refine (of_ref _ (by omega) (by omega) _).mono ?_; rintro e w' ⟨rfl, rfl⟩) | (go_at_call 14; refine (sum_own w.heap.size _ _ _ (by assumption)).mono ?_; rintro e w1 ⟨rfl, hlt, hk1, hz1, hf1⟩; have HF := Lib.hid (HF.out.on hf1); clear hf1) | (go_at_call 25; refine (least_ref _ _ _ _ _).mono ?_; rintro e w' ⟨rfl, hf⟩) | rw [rounds_succ] | refine wp_loop_rounds 6 ?_)
      go_roundw
      case rel => refine ⟨2, by go_num, .inr (.inr (.inl ⟨rfl, ?_⟩)), ?_, ?_⟩ <;> first | exact own4_mk (by go_simp) (by go_simp) (by go_simp) (by go_simp) (by go_simp) (by go_simp) (by go_simp) (by go_simp) | (simp; done) | (simpa using hlt) | exact Lib.hid (by repeat (first | with_reducible exact HF.out | with_reducible refine Fresh.set_ ?_ (Nat.le_refl _) _))
      case measure => simp [intOf]
    · go_wp2_with (first | (go_at_call 23; refine (lets_ref _ _ _).mono ?_; rintro e w' ⟨rfl, rfl⟩) | (go_at_call 24; refine (of_ref _ (by omega) (by omega) _).mono ?_; rintro e w' ⟨rfl, rfl⟩) | (go_at_call 14; refine (sum_own w.heap.size _ _ _ (by assumption)).mono ?_; rintro e w1 ⟨rfl, hlt, hk1, hz1, hf1⟩; have HF := Lib.hid (HF.out.on hf1); clear hf1) | (go_at_call 25; refine (least_ref _ _ _ _ _).mono ?_; rintro e w' ⟨rfl, hf⟩) | rw [rounds_succ] | refine wp_loop_rounds 6 ?_)
      go_roundw
      case rel => refine ⟨3, by go_num, .inr (.inr (.inr (.inl ⟨rfl, ?_⟩))), ?_, ?_⟩ <;> first | exact own4_mk (by go_simp) (by go_simp) (by go_simp) (by go_simp) (by go_simp) (by go_simp) (by go_simp) (by go_simp) | (simp; done) | (simpa using hlt) | exact Lib.hid (by repeat (first | with_reducible exact HF.out | with_reducible refine Fresh.set_ ?_ (Nat.le_refl _) _))
      case measure => simp [intOf]
    · go_wp2_with (first | (go_at_call 23; refine (lets_ref _ _ _).mono ?_; rintro e w' ⟨rfl, rfl⟩) | (go_at_call 24; refine (of_ref _ (by omega) (by omega) _).mono ?_; rintro e w' ⟨rfl, rfl⟩) | (go_at_call 14; refine (sum_own w.heap.size _ _ _ (by assumption)).mono ?_; rintro e w1 ⟨rfl, hlt, hk1, hz1, hf1⟩; have HF := Lib.hid (HF.out.on hf1); clear hf1) | (go_at_call 25; refine (least_ref _ _ _ _ _).mono ?_; rintro e w' ⟨rfl, hf⟩) | rw [rounds_succ] | refine wp_loop_rounds 6 ?_)
      go_roundw
      case rel => refine ⟨4, by go_num, .inr (.inr (.inr (.inr (⟨rfl, ?_⟩)))), ?_, ?_⟩ <;> first | exact own4_mk (by go_simp) (by go_simp) (by go_simp) (by go_simp) (by go_simp) (by go_simp) (by go_simp) (by go_simp) | (simp; done) | (simpa using hlt) | exact Lib.hid (by repeat (first | with_reducible exact HF.out | with_reducible refine Fresh.set_ ?_ (Nat.le_refl _) _))
      case measure => simp [intOf]
    · go_wp2_with (first | (go_at_call 23; refine (lets_ref _ _ _).mono ?_; rintro e w' ⟨rfl, rfl⟩) | (go_at_call 24; refine (of_ref _ (by omega) (by omega) _).mono ?_; rintro e w' ⟨rfl, rfl⟩) | (go_at_call 14; refine (sum_own w.heap.size _ _ _ (by assumption)).mono ?_; rintro e w1 ⟨rfl, hlt, hk1, hz1, hf1⟩; have HF := Lib.hid (HF.out.on hf1); clear hf1) | (go_at_call 25; refine (least_ref _ _ _ _ _).mono ?_; rintro e w' ⟨rfl, hf⟩) | rw [rounds_succ] | refine wp_loop_rounds 6 ?_)
      go_ret
      exact ⟨ret_int (by rw [E.out, X.out, Y.out]; rfl), HF.out.on hf⟩
set_option maxRecDepth 100000 in
set_option maxHeartbeats 4000000 in
theorem scale_11 (m u : Int) (h0 : 0 ≤ m) (h1 : m ≤ 255) (y : knownF m = 1) (x : cu u = 1) (a0 : letsF u 0 = false) (a1 : letsF u 1 = true) (a2 : letsF u 2 = false) (a3 : letsF u 3 = false) (w : World) :
    Calls Tryd.prog 15 #[.int .u8 m, .int .u8 u] w fun e w' => e = .returned (.int .u8 (scaleF m u)) ∧ Fresh w w' := by
  have E := Lib.hid (scaleF_c m u)
  have c00 : letsF 0 0 = true := rfl
  have c01 : letsF 0 1 = false := rfl
  have c02 : letsF 0 2 = false := rfl
  have c03 : letsF 0 3 = false := rfl
  have c10 : letsF 1 0 = false := rfl
  have c11 : letsF 1 1 = true := rfl
  have c12 : letsF 1 2 = false := rfl
  have c13 : letsF 1 3 = false := rfl
  have c20 : letsF 2 0 = true := rfl
  have c21 : letsF 2 1 = true := rfl
  have c22 : letsF 2 2 = false := rfl
  have c23 : letsF 2 3 = false := rfl
  have c30 : letsF 3 0 = true := rfl
  have c31 : letsF 3 1 = true := rfl
  have c32 : letsF 3 2 = true := rfl
  have c33 : letsF 3 3 = true := rfl
  have s0 : sumF [0, u] = 1 := by rw [sum_tab, x]; rfl
  have s1 : sumF [1, u] = 3 := by rw [sum_tab, x]; rfl
  have s3 : sumF [3, u] = 3 := by rw [sum_tab, x]; rfl
  have X := Lib.hid x
  have Y := Lib.hid y
  clear x
  go_enter Tryd.func15, Tryd.ntmps15
  go_wp2
  go_loopw [6] (fun t wr => ∃ k : Nat, t = .int .i64 k ∧ (k = 0 ∧ Own4 wr w.heap.size false false false false ∨ k = 1 ∧ Own4 wr w.heap.size false false false false ∨ k = 2 ∧ Own4 wr w.heap.size false true false false ∨ k = 3 ∧ Own4 wr w.heap.size false true false false ∨ k = 4 ∧ Own4 wr w.heap.size false true false false) ∧ Hid (Fresh w wr) ∧ w.heap.size < wr.heap.size) (fun t _ => 4 - (intOf t).toNat)
  case atStart => exact ⟨0, rfl, .inl ⟨rfl, own4_mk (by simp) (by simp) (by simp) (by simp) (by simp) (by simp) (by simp) (by simp)⟩, Lib.hid ((Fresh.refl _).alloc _ _), by simp⟩
  case round =>
    obtain ⟨k, rfl, hk, HF, hlt⟩ := hrel
    rcases hk with ⟨rfl, ⟨q0, q1, q2, q3⟩, z0, z1, z2, z3⟩ | ⟨rfl, ⟨q0, q1, q2, q3⟩, z0, z1, z2, z3⟩ | ⟨rfl, ⟨q0, q1, q2, q3⟩, z0, z1, z2, z3⟩ | ⟨rfl, ⟨q0, q1, q2, q3⟩, z0, z1, z2, z3⟩ | ⟨rfl, ⟨q0, q1, q2, q3⟩, z0, z1, z2, z3⟩
    · go_wp2_with (first | (go_at_call 23; refine (lets_ref _ _ _).mono ?_; rintro e w' ⟨rfl, rfl⟩) | (go_at_call 24; refine (of_ref _ (by omega) (by omega) _).mono ?_; rintro e w' ⟨rfl, rfl⟩) | (go_at_call 14; refine (sum_own w.heap.size _ _ _ (by assumption)).mono ?_; rintro e w1 ⟨rfl, hlt, hk1, hz1, hf1⟩; have HF := Lib.hid (HF.out.on hf1); clear hf1) | (go_at_call 25; refine (least_ref _ _ _ _ _).mono ?_; rintro e w' ⟨rfl, hf⟩) | rw [rounds_succ] | refine wp_loop_rounds 6 ?_)
      go_roundw
      case rel => refine ⟨1, by go_num, .inr (.inl ⟨rfl, ?_⟩), ?_, ?_⟩ <;> first | exact own4_mk (by go_simp) (by go_simp) (by go_simp) (by go_simp) (by go_simp) (by go_simp) (by go_simp) (by go_simp) | (simp; done) | (simpa using hlt) | exact Lib.hid (by repeat (first | with_reducible exact HF.out | with_reducible refine Fresh.set_ ?_ (Nat.le_refl _) _))
      case measure => simp [intOf]
    · go_wp2_with (first | (go_at_call 23; refine (lets_ref _ _ _).mono ?_; rintro e w' ⟨rfl, rfl⟩) | (go_at_call 24; refine (of_ref _ (by omega) (by omega) _).mono ?_; rintro e w' ⟨rfl, rfl⟩) | (go_at_call 14; refine (sum_own w.heap.size _ _ _ (by assumption)).mono ?_; rintro e w1 ⟨rfl, hlt, hk1, hz1, hf1⟩; have HF := Lib.hid (HF.out.on hf1); clear hf1) | (go_at_call 25; refine (least_ref _ _ _ _ _).mono ?_; rintro e w' ⟨rfl, hf⟩) | rw [rounds_succ] | refine wp_loop_rounds 6 ?_)
      go_roundw
      case rel => refine ⟨2, by go_num, .inr (.inr (.inl ⟨rfl, ?_⟩)), ?_, ?_⟩ <;> first | exact own4_mk (by go_simp) (by go_simp) (by go_simp) (by go_simp) (by go_simp) (by go_simp) (by go_simp) (by go_simp) | (simp; done) | (simpa using hlt) | exact Lib.hid (by repeat (first | with_reducible exact HF.out | with_reducible refine Fresh.set_ ?_ (Nat.le_refl _) _))
      case measure => simp [intOf]
    · go_wp2_with (first | (go_at_call 23; refine (lets_ref _ _ _).mono ?_; rintro e w' ⟨rfl, rfl⟩) | (go_at_call 24; refine (of_ref _ (by omega) (by omega) _).mono ?_; rintro e w' ⟨rfl, rfl⟩) | (go_at_call 14; refine (sum_own w.heap.size _ _ _ (by assumption)).mono ?_; rintro e w1 ⟨rfl, hlt, hk1, hz1, hf1⟩; have HF := Lib.hid (HF.out.on hf1); clear hf1) | (go_at_call 25; refine (least_ref _ _ _ _ _).mono ?_; rintro e w' ⟨rfl, hf⟩) | rw [rounds_succ] | refine wp_loop_rounds 6 ?_)
      go_roundw
      case rel => refine ⟨3, by go_num, .inr (.inr (.inr (.inl ⟨rfl, ?_⟩))), ?_, ?_⟩ <;> first | exact own4_mk (by go_simp) (by go_simp) (by go_simp) (by go_simp) (by go_simp) (by go_simp) (by go_simp) (by go_simp) | (simp; done) | (simpa using hlt) | exact Lib.hid (by repeat (first | with_reducible exact HF.out | with_reducible refine Fresh.set_ ?_ (Nat.le_refl _) _))
      case measure => simp [intOf]
    · go_wp2_with (first | (go_at_call 23; refine (lets_ref _ _ _).mono ?_; rintro e w' ⟨rfl, rfl⟩) | (go_at_call 24; refine (of_ref _ (by omega) (by omega) _).mono ?_; rintro e w' ⟨rfl, rfl⟩) | (go_at_call 14; refine (sum_own w.heap.size _ _ _ (by assumption)).mono ?_; rintro e w1 ⟨rfl, hlt, hk1, hz1, hf1⟩; have HF := Lib.hid (HF.out.on hf1); clear hf1) | (go_at_call 25; refine (least_ref _ _ _ _ _).mono ?_; rintro e w' ⟨rfl, hf⟩) | rw [rounds_succ] | refine wp_loop_rounds 6 ?_)
      go_roundw
      case rel => refine ⟨4, by go_num, .inr (.inr (.inr (.inr (⟨rfl, ?_⟩)))), ?_, ?_⟩ <;> first | exact own4_mk (by go_simp) (by go_simp) (by go_simp) (by go_simp) (by go_simp) (by go_simp) (by go_simp) (by go_simp) | (simp; done) | (simpa using hlt) | exact Lib.hid (by repeat (first | with_reducible exact HF.out | with_reducible refine Fresh.set_ ?_ (Nat.le_refl _) _))
      case measure => simp [intOf]
    · go_wp2_with (first | (go_at_call 23; refine (lets_ref _ _ _).mono ?_; rintro e w' ⟨rfl, rfl⟩) | (go_at_call 24; refine (of_ref _ (by omega) (by omega) _).mono ?_; rintro e w' ⟨rfl, rfl⟩) | (go_at_call 14; refine (sum_own w.heap.size _ _ _ (by assumption)).mono ?_; rintro e w1 ⟨rfl, hlt, hk1, hz1, hf1⟩; have HF := Lib.hid (HF.out.on hf1); clear hf1) | (go_at_call 25; refine (least_ref _ _ _ _ _).mono ?_; rintro e w' ⟨rfl, hf⟩) | rw [rounds_succ] | refine wp_loop_rounds 6 ?_)
      go_ret
      exact ⟨ret_int (by rw [E.out, X.out, Y.out]; rfl), HF.out.on hf⟩
set_option maxRecDepth 100000 in
set_option maxHeartbeats 4000000 in
theorem scale_12 (m u : Int) (h0 : 0 ≤ m) (h1 : m ≤ 255) (y : knownF m = 1) (x : cu u = 2) (a0 : letsF u 0 = true) (a1 : letsF u 1 = true) (a2 : letsF u 2 = false) (a3 : letsF u 3 = false) (w : World) :
    Calls Tryd.prog 15 #[.int .u8 m, .int .u8 u] w fun e w' => e = .returned (.int .u8 (scaleF m u)) ∧ Fresh w w' := by
  have E := Lib.hid (scaleF_c m u)
  have c00 : letsF 0 0 = true := rfl
  have c01 : letsF 0 1 = false := rfl
  have c02 : letsF 0 2 = false := rfl
  have c03 : letsF 0 3 = false := rfl
  have c10 : letsF 1 0 = false := rfl
  have c11 : letsF 1 1 = true := rfl
  have c12 : letsF 1 2 = false := rfl
  have c13 : letsF 1 3 = false := rfl
  have c20 : letsF 2 0 = true := rfl
  have c21 : letsF 2 1 = true := rfl
  have c22 : letsF 2 2 = false := rfl
  have c23 : letsF 2 3 = false := rfl
  have c30 : letsF 3 0 = true := rfl
  have c31 : letsF 3 1 = true := rfl
  have c32 : letsF 3 2 = true := rfl
  have c33 : letsF 3 3 = true := rfl
  have s0 : sumF [0, u] = 2 := by rw [sum_tab, x]; rfl
  have s2 : sumF [2, u] = 3 := by rw [sum_tab, x]; rfl
  have s3 : sumF [3, u] = 3 := by rw [sum_tab, x]; rfl
  have X := Lib.hid x
  have Y := Lib.hid y
  clear x
  go_enter Tryd.func15, Tryd.ntmps15
  go_wp2
  go_loopw [6] (fun t wr => ∃ k : Nat, t = .int .i64 k ∧ (k = 0 ∧ Own4 wr w.heap.size false false false false ∨ k = 1 ∧ Own4 wr w.heap.size false false false false ∨ k = 2 ∧ Own4 wr w.heap.size true true false false ∨ k = 3 ∧ Own4 wr w.heap.size true true false false ∨ k = 4 ∧ Own4 wr w.heap.size true true false false) ∧ Hid (Fresh w wr) ∧ w.heap.size < wr.heap.size) (fun t _ => 4 - (intOf t).toNat)
  case atStart => exact ⟨0, rfl, .inl ⟨rfl, own4_mk (by simp) (by simp) (by simp) (by simp) (by simp) (by simp) (by simp) (by simp)⟩, Lib.hid ((Fresh.refl _).alloc _ _), by simp⟩
  case round =>
    obtain ⟨k, rfl, hk, HF, hlt⟩ := hrel
    rcases hk with ⟨rfl, ⟨q0, q1, q2, q3⟩, z0, z1, z2, z3⟩ | ⟨rfl, ⟨q0, q1, q2, q3⟩, z0, z1, z2, z3⟩ | ⟨rfl, ⟨q0, q1, q2, q3⟩, z0, z1, z2, z3⟩ | ⟨rfl, ⟨q0, q1, q2, q3⟩, z0, z1, z2, z3⟩ | ⟨rfl, ⟨q0, q1, q2, q3⟩, z0, z1, z2, z3⟩
    · go_wp2_with (first | (go_at_call 23; refine (lets_ref _ _ _).mono ?_; rintro e w' ⟨rfl, rfl⟩) | (go_at_call 24; refine (of_ref _ (by omega) (by omega) _).mono ?_; rintro e w' ⟨rfl, rfl⟩) | (go_at_call 14; refine (sum_own w.heap.size _ _ _ (by assumption)).mono ?_; rintro e w1 ⟨rfl, hlt, hk1, hz1, hf1⟩; have HF := Lib.hid (HF.out.on hf1); clear hf1) | (go_at_call 25; refine (least_ref _ _ _ _ _).mono ?_; rintro e w' ⟨rfl, hf⟩) | rw [rounds_succ] | refine wp_loop_rounds 6 ?_)
      go_roundw
      case rel => refine ⟨1, by go_num, .inr (.inl ⟨rfl, ?_⟩), ?_, ?_⟩ <;> first | exact own4_mk (by go_simp) (by go_simp) (by go_simp) (by go_simp) (by go_simp) (by go_simp) (by go_simp) (by go_simp) | (simp; done) | (simpa using hlt) | exact Lib.hid (by repeat (first | with_reducible exact HF.out | with_reducible refine Fresh.set_ ?_ (Nat.le_refl _) _))
      case measure => simp [intOf]
    · go_wp2_with (first | (go_at_call 23; refine (lets_ref _ _ _).mono ?_; rintro e w' ⟨rfl, rfl⟩) | (go_at_call 24; refine (of_ref _ (by omega) (by omega) _).mono ?_; rintro e w' ⟨rfl, rfl⟩) | (go_at_call 14; refine (sum_own w.heap.size _ _ _ (by assumption)).mono ?_; rintro e w1 ⟨rfl, hlt, hk1, hz1, hf1⟩; have HF := Lib.hid (HF.out.on hf1); clear hf1) | (go_at_call 25; refine (least_ref _ _ _ _ _).mono ?_; rintro e w' ⟨rfl, hf⟩) | rw [rounds_succ] | refine wp_loop_rounds 6 ?_)
      go_roundw
      case rel => refine ⟨2, by go_num, .inr (.inr (.inl ⟨rfl, ?_⟩)), ?_, ?_⟩ <;> first | exact own4_mk (by go_simp) (by go_simp) (by go_simp) (by go_simp) (by go_simp) (by go_simp) (by go_simp) (by go_simp) | (simp; done) | (simpa using hlt) | exact Lib.hid (by repeat (first | with_reducible exact HF.out | with_reducible refine Fresh.set_ ?_ (Nat.le_refl _) _))
      case measure => simp [intOf]
    · go_wp2_with (first | (go_at_call 23; refine (lets_ref _ _ _).mono ?_; rintro e w' ⟨rfl, rfl⟩) | (go_at_call 24; refine (of_ref _ (by omega) (by omega) _).mono ?_; rintro e w' ⟨rfl, rfl⟩) | (go_at_call 14; refine (sum_own w.heap.size _ _ _ (by assumption)).mono ?_; rintro e w1 ⟨rfl, hlt, hk1, hz1, hf1⟩; have HF := Lib.hid (HF.out.on hf1); clear hf1) | (go_at_call 25; refine (least_ref _ _ _ _ _).mono ?_; rintro e w' ⟨rfl, hf⟩) | rw [rounds_succ] | refine wp_loop_rounds 6 ?_)
      go_roundw
      case rel => refine ⟨3, by go_num, .inr (.inr (.inr (.inl ⟨rfl, ?_⟩))), ?_, ?_⟩ <;> first | exact own4_mk (by go_simp) (by go_simp) (by go_simp) (by go_simp) (by go_simp) (by go_simp) (by go_simp) (by go_simp) | (simp; done) | (simpa using hlt) | exact Lib.hid (by repeat (first | with_reducible exact HF.out | with_reducible refine Fresh.set_ ?_ (Nat.le_refl _) _))
      case measure => simp [intOf]
    · go_wp2_with (first | (go_at_call 23; refine (lets_ref _ _ _).mono ?_; rintro e w' ⟨rfl, rfl⟩) | (go_at_call 24; refine (of_ref _ (by omega) (by omega) _).mono ?_; rintro e w' ⟨rfl, rfl⟩) | (go_at_call 14; refine (sum_own w.heap.size _ _ _ (by assumption)).mono ?_; rintro e w1 ⟨rfl, hlt, hk1, hz1, hf1⟩; have HF := Lib.hid (HF.out.on hf1); clear hf1) | (go_at_call 25; refine (least_ref _ _ _ _ _).mono ?_; rintro e w' ⟨rfl, hf⟩) | rw [rounds_succ] | refine wp_loop_rounds 6 ?_)
      go_roundw
      case rel => refine ⟨4, by go_num, .inr (.inr (.inr (.inr (⟨rfl, ?_⟩)))), ?_, ?_⟩ <;> first | exact own4_mk (by go_simp) (by go_simp) (by go_simp) (by go_simp) (by go_simp) (by go_simp) (by go_simp) (by go_simp) | (simp; done) | (simpa using hlt) | exact Lib.hid (by repeat (first | with_reducible exact HF.out | with_reducible refine Fresh.set_ ?_ (Nat.le_refl _) _))
      case measure => simp [intOf]
    · go_wp2_with (first | (go_at_call 23; refine (lets_ref _ _ _).mono ?_; rintro e w' ⟨rfl, rfl⟩) | (go_at_call 24; refine (of_ref _ (by omega) (by omega) _).mono ?_; rintro e w' ⟨rfl, rfl⟩) | (go_at_call 14; refine (sum_own w.heap.size _ _ _ (by assumption)).mono ?_; rintro e w1 ⟨rfl, hlt, hk1, hz1, hf1⟩; have HF := Lib.hid (HF.out.on hf1); clear hf1) | (go_at_call 25; refine (least_ref _ _ _ _ _).mono ?_; rintro e w' ⟨rfl, hf⟩) | rw [rounds_succ] | refine wp_loop_rounds 6 ?_)
      go_ret
      exact ⟨ret_int (by rw [E.out, X.out, Y.out]; rfl), HF.out.on hf⟩
set_option maxRecDepth 100000 in
set_option maxHeartbeats 4000000 in
theorem scale_13 (m u : Int) (h0 : 0 ≤ m) (h1 : m ≤ 255) (y : knownF m = 1) (x : cu u = 3) (a0 : letsF u 0 = true) (a1 : letsF u 1 = true) (a2 : letsF u 2 = true) (a3 : letsF u 3 = true) (w : World) :
    Calls Tryd.prog 15 #[.int .u8 m, .int .u8 u] w fun e w' => e = .returned (.int .u8 (scaleF m u)) ∧ Fresh w w' := by
  have E := Lib.hid (scaleF_c m u)
  have c00 : letsF 0 0 = true := rfl
  have c01 : letsF 0 1 = false := rfl
  have c02 : letsF 0 2 = false := rfl
  have c03 : letsF 0 3 = false := rfl
  have c10 : letsF 1 0 = false := rfl
  have c11 : letsF 1 1 = true := rfl
  have c12 : letsF 1 2 = false := rfl
  have c13 : letsF 1 3 = false := rfl
  have c20 : letsF 2 0 = true := rfl
  have c21 : letsF 2 1 = true := rfl
  have c22 : letsF 2 2 = false := rfl
  have c23 : letsF 2 3 = false := rfl
  have c30 : letsF 3 0 = true := rfl
  have c31 : letsF 3 1 = true := rfl
  have c32 : letsF 3 2 = true := rfl
  have c33 : letsF 3 3 = true := rfl
  have s0 : sumF [0, u] = 3 := by rw [sum_tab, x]; rfl
  have s3 : sumF [3, u] = 3 := by rw [sum_tab, x]; rfl
  have X := Lib.hid x
  have Y := Lib.hid y
  clear x
  go_enter Tryd.func15, Tryd.ntmps15
  go_wp2
  go_loopw [6] (fun t wr => ∃ k : Nat, t = .int .i64 k ∧ (k = 0 ∧ Own4 wr w.heap.size false false false false ∨ k = 1 ∧ Own4 wr w.heap.size false false false false ∨ k = 2 ∧ Own4 wr w.heap.size true true true true ∨ k = 3 ∧ Own4 wr w.heap.size true true true true ∨ k = 4 ∧ Own4 wr w.heap.size true true true true) ∧ Hid (Fresh w wr) ∧ w.heap.size < wr.heap.size) (fun t _ => 4 - (intOf t).toNat)
  case atStart => exact ⟨0, rfl, .inl ⟨rfl, own4_mk (by simp) (by simp) (by simp) (by simp) (by simp) (by simp) (by simp) (by simp)⟩, Lib.hid ((Fresh.refl _).alloc _ _), by simp⟩
  case round =>
    obtain ⟨k, rfl, hk, HF, hlt⟩ := hrel
    rcases hk with ⟨rfl, ⟨q0, q1, q2, q3⟩, z0, z1, z2, z3⟩ | ⟨rfl, ⟨q0, q1, q2, q3⟩, z0, z1, z2, z3⟩ | ⟨rfl, ⟨q0, q1, q2, q3⟩, z0, z1, z2, z3⟩ | ⟨rfl, ⟨q0, q1, q2, q3⟩, z0, z1, z2, z3⟩ | ⟨rfl, ⟨q0, q1, q2, q3⟩, z0, z1, z2, z3⟩
    · go_wp2_with (first | (go_at_call 23; refine (lets_ref _ _ _).mono ?_; rintro e w' ⟨rfl, rfl⟩) | (go_at_call 24; refine (of_ref _ (by omega) (by omega) _).mono ?_; rintro e w' ⟨rfl, rfl⟩) | (go_at_call 14; refine (sum_own w.heap.size _ _ _ (by assumption)).mono ?_; rintro e w1 ⟨rfl, hlt, hk1, hz1, hf1⟩; have HF := Lib.hid (HF.out.on hf1); clear hf1) | (go_at_call 25; refine (least_ref _ _ _ _ _).mono ?_; rintro e w' ⟨rfl, hf⟩) | rw [rounds_succ] | refine wp_loop_rounds 6 ?_)
      go_roundw
      case rel => refine ⟨1, by go_num, .inr (.inl ⟨rfl, ?_⟩), ?_, ?_⟩ <;> first | exact own4_mk (by go_simp) (by go_simp) (by go_simp) (by go_simp) (by go_simp) (by go_simp) (by go_simp) (by go_simp) | (simp; done) | (simpa using hlt) | exact Lib.hid (by repeat (first | with_reducible exact HF.out | with_reducible refine Fresh.set_ ?_ (Nat.le_refl _) _))
      case measure => simp [intOf]
    · go_wp2_with (first | (go_at_call 23; refine (lets_ref _ _ _).mono ?_; rintro e w' ⟨rfl, rfl⟩) | (go_at_call 24; refine (of_ref _ (by omega) (by omega) _).mono ?_; rintro e w' ⟨rfl, rfl⟩) | (go_at_call 14; refine (sum_own w.heap.size _ _ _ (by assumption)).mono ?_; rintro e w1 ⟨rfl, hlt, hk1, hz1, hf1⟩; have HF := Lib.hid (HF.out.on hf1); clear hf1) | (go_at_call 25; refine (least_ref _ _ _ _ _).mono ?_; rintro e w' ⟨rfl, hf⟩) | rw [rounds_succ] | refine wp_loop_rounds 6 ?_)
      go_roundw
      case rel => refine ⟨2, by go_num, .inr (.inr (.inl ⟨rfl, ?_⟩)), ?_, ?_⟩ <;> first | exact own4_mk (by go_simp) (by go_simp) (by go_simp) (by go_simp) (by go_simp) (by go_simp) (by go_simp) (by go_simp) | (simp; done) | (simpa using hlt) | exact Lib.hid (by repeat (first | with_reducible exact HF.out | with_reducible refine Fresh.set_ ?_ (Nat.le_refl _) _))
      case measure => simp [intOf]
    · go_wp2_with (first | (go_at_call 23; refine (lets_ref _ _ _).mono ?_; rintro e w' ⟨rfl, rfl⟩) | (go_at_call 24; refine (of_ref _ (by omega) (by omega) _).mono ?_; rintro e w' ⟨rfl, rfl⟩) | (go_at_call 14; refine (sum_own w.heap.size _ _ _ (by assumption)).mono ?_; rintro e w1 ⟨rfl, hlt, hk1, hz1, hf1⟩; have HF := Lib.hid (HF.out.on hf1); clear hf1) | (go_at_call 25; refine (least_ref _ _ _ _ _).mono ?_; rintro e w' ⟨rfl, hf⟩) | rw [rounds_succ] | refine wp_loop_rounds 6 ?_)
      go_roundw
      case rel => refine ⟨3, by go_num, .inr (.inr (.inr (.inl ⟨rfl, ?_⟩))), ?_, ?_⟩ <;> first | exact own4_mk (by go_simp) (by go_simp) (by go_simp) (by go_simp) (by go_simp) (by go_simp) (by go_simp) (by go_simp) | (simp; done) | (simpa using hlt) | exact Lib.hid (by repeat (first | with_reducible exact HF.out | with_reducible refine Fresh.set_ ?_ (Nat.le_refl _) _))
      case measure => simp [intOf]
    · go_wp2_with (first | (go_at_call 23; refine (lets_ref _ _ _).mono ?_; rintro e w' ⟨rfl, rfl⟩) | (go_at_call 24; refine (of_ref _ (by omega) (by omega) _).mono ?_; rintro e w' ⟨rfl, rfl⟩) | (go_at_call 14; refine (sum_own w.heap.size _ _ _ (by assumption)).mono ?_; rintro e w1 ⟨rfl, hlt, hk1, hz1, hf1⟩; have HF := Lib.hid (HF.out.on hf1); clear hf1) | (go_at_call 25; refine (least_ref _ _ _ _ _).mono ?_; rintro e w' ⟨rfl, hf⟩) | rw [rounds_succ] | refine wp_loop_rounds 6 ?_)
      go_roundw
      case rel => refine ⟨4, by go_num, .inr (.inr (.inr (.inr (⟨rfl, ?_⟩)))), ?_, ?_⟩ <;> first | exact own4_mk (by go_simp) (by go_simp) (by go_simp) (by go_simp) (by go_simp) (by go_simp) (by go_simp) (by go_simp) | (simp; done) | (simpa using hlt) | exact Lib.hid (by repeat (first | with_reducible exact HF.out | with_reducible refine Fresh.set_ ?_ (Nat.le_refl _) _))
      case measure => simp [intOf]
    · go_wp2_with (first | (go_at_call 23; refine (lets_ref _ _ _).mono ?_; rintro e w' ⟨rfl, rfl⟩) | (go_at_call 24; refine (of_ref _ (by omega) (by omega) _).mono ?_; rintro e w' ⟨rfl, rfl⟩) | (go_at_call 14; refine (sum_own w.heap.size _ _ _ (by assumption)).mono ?_; rintro e w1 ⟨rfl, hlt, hk1, hz1, hf1⟩; have HF := Lib.hid (HF.out.on hf1); clear hf1) | (go_at_call 25; refine (least_ref _ _ _ _ _).mono ?_; rintro e w' ⟨rfl, hf⟩) | rw [rounds_succ] | refine wp_loop_rounds 6 ?_)
      go_ret
      exact ⟨ret_int (by rw [E.out, X.out, Y.out]; rfl), HF.out.on hf⟩
set_option maxRecDepth 100000 in
set_option maxHeartbeats 4000000 in
theorem scale_20 (m u : Int) (h0 : 0 ≤ m) (h1 : m ≤ 255) (y : knownF m = 2) (x : cu u = 0) (a0 : letsF u 0 = true) (a1 : letsF u 1 = false) (a2 : letsF u 2 = false) (a3 : letsF u 3 = false) (w : World) :
    Calls Tryd.prog 15 #[.int .u8 m, .int .u8 u] w fun e w' => e = .returned (.int .u8 (scaleF m u)) ∧ Fresh w w' := by
  have E := Lib.hid (scaleF_c m u)
  have c00 : letsF 0 0 = true := rfl
  have c01 : letsF 0 1 = false := rfl
  have c02 : letsF 0 2 = false := rfl
  have c03 : letsF 0 3 = false := rfl
  have c10 : letsF 1 0 = false := rfl
  have c11 : letsF 1 1 = true := rfl
  have c12 : letsF 1 2 = false := rfl
  have c13 : letsF 1 3 = false := rfl
  have c20 : letsF 2 0 = true := rfl
  have c21 : letsF 2 1 = true := rfl
  have c22 : letsF 2 2 = false := rfl
  have c23 : letsF 2 3 = false := rfl
  have c30 : letsF 3 0 = true := rfl
  have c31 : letsF 3 1 = true := rfl
  have c32 : letsF 3 2 = true := rfl
  have c33 : letsF 3 3 = true := rfl
  have s0 : sumF [0, u] = 0 := by rw [sum_tab, x]; rfl
  have X := Lib.hid x
  have Y := Lib.hid y
  clear x
  go_enter Tryd.func15, Tryd.ntmps15
  go_wp2
  go_loopw [6] (fun t wr => ∃ k : Nat, t = .int .i64 k ∧ (k = 0 ∧ Own4 wr w.heap.size false false false false ∨ k = 1 ∧ Own4 wr w.heap.size true false false false ∨ k = 2 ∧ Own4 wr w.heap.size true false false false ∨ k = 3 ∧ Own4 wr w.heap.size true false false false ∨ k = 4 ∧ Own4 wr w.heap.size true false false false) ∧ Hid (Fresh w wr) ∧ w.heap.size < wr.heap.size) (fun t _ => 4 - (intOf t).toNat)
  case atStart => exact ⟨0, rfl, .inl ⟨rfl, own4_mk (by simp) (by simp) (by simp) (by simp) (by simp) (by simp) (by simp) (by simp)⟩, Lib.hid ((Fresh.refl _).alloc _ _), by simp⟩
  case round =>
    obtain ⟨k, rfl, hk, HF, hlt⟩ := hrel
    rcases hk with ⟨rfl, ⟨q0, q1, q2, q3⟩, z0, z1, z2, z3⟩ | ⟨rfl, ⟨q0, q1, q2, q3⟩, z0, z1, z2, z3⟩ | ⟨rfl, ⟨q0, q1, q2, q3⟩, z0, z1, z2, z3⟩ | ⟨rfl, ⟨q0, q1, q2, q3⟩, z0, z1, z2, z3⟩ | ⟨rfl, ⟨q0, q1, q2, q3⟩, z0, z1, z2, z3⟩
    · go_wp2_with (first | (go_at_call 23; refine (lets_ref _ _ _).mono ?_; rintro e w' ⟨rfl, rfl⟩) | (go_at_call 24; refine (of_ref _ (by omega) (by omega) _).mono ?_; rintro e w' ⟨rfl, rfl⟩) | (go_at_call 14; refine (sum_own w.heap.size _ _ _ (by assumption)).mono ?_; rintro e w1 ⟨rfl, hlt, hk1, hz1, hf1⟩; have HF := Lib.hid (HF.out.on hf1); clear hf1) | (go_at_call 25; refine (least_ref _ _ _ _ _).mono ?_; rintro e w' ⟨rfl, hf⟩) | rw [rounds_succ] | refine wp_loop_rounds 6 ?_)
      go_roundw
      case rel => refine ⟨1, by go_num, .inr (.inl ⟨rfl, ?_⟩), ?_, ?_⟩ <;> first | exact own4_mk (by go_simp) (by go_simp) (by go_simp) (by go_simp) (by go_simp) (by go_simp) (by go_simp) (by go_simp) | (simp; done) | (simpa using hlt) | exact Lib.hid (by repeat (first | with_reducible exact HF.out | with_reducible refine Fresh.set_ ?_ (Nat.le_refl _) _))
      case measure => simp [intOf]
    · go_wp2_with (first | (go_at_call 23; refine (lets_ref _ _ _).mono ?_; rintro e w' ⟨rfl, rfl⟩) | (go_at_call 24; refine (of_ref _ (by omega) (by omega) _).mono ?_; rintro e w' ⟨rfl, rfl⟩) | (go_at_call 14; refine (sum_own w.heap.size _ _ _ (by assumption)).mono ?_; rintro e w1 ⟨rfl, hlt, hk1, hz1, hf1⟩; have HF := Lib.hid (HF.out.on hf1); clear hf1) | (go_at_call 25; refine (least_ref _ _ _ _ _).mono ?_; rintro e w' ⟨rfl, hf⟩) | rw [rounds_succ] | refine wp_loop_rounds 6 ?_)
      go_roundw
      case rel => refine ⟨2, by go_num, .inr (.inr (.inl ⟨rfl, ?_⟩)), ?_, ?_⟩ <;> first | exact own4_mk (by go_simp) (by go_simp) (by go_simp) (by go_simp) (by go_simp) (by go_simp) (by go_simp) (by go_simp) | (simp; done) | (simpa using hlt) | exact Lib.hid (by repeat (first | with_reducible exact HF.out | with_reducible refine Fresh.set_ ?_ (Nat.le_refl _) _))
      case measure => simp [intOf]
    · go_wp2_with (first | (go_at_call 23; refine (lets_ref _ _ _).mono ?_; rintro e w' ⟨rfl, rfl⟩) | (go_at_call 24; refine (of_ref _ (by omega) (by omega) _).mono ?_; rintro e w' ⟨rfl, rfl⟩) | (go_at_call 14; refine (sum_own w.heap.size _ _ _ (by assumption)).mono ?_; rintro e w1 ⟨rfl, hlt, hk1, hz1, hf1⟩; have HF := Lib.hid (HF.out.on hf1); clear hf1) | (go_at_call 25; refine (least_ref _ _ _ _ _).mono ?_; rintro e w' ⟨rfl, hf⟩) | rw [rounds_succ] | refine wp_loop_rounds 6 ?_)
      go_roundw
      case rel => refine ⟨3, by go_num, .inr (.inr (.inr (.inl ⟨rfl, ?_⟩))), ?_, ?_⟩ <;> first | exact own4_mk (by go_simp) (by go_simp) (by go_simp) (by go_simp) (by go_simp) (by go_simp) (by go_simp) (by go_simp) | (simp; done) | (simpa using hlt) | exact Lib.hid (by repeat (first | with_reducible exact HF.out | with_reducible refine Fresh.set_ ?_ (Nat.le_refl _) _))
      case measure => simp [intOf]
    · go_wp2_with (first | (go_at_call 23; refine (lets_ref _ _ _).mono ?_; rintro e w' ⟨rfl, rfl⟩) | (go_at_call 24; refine (of_ref _ (by omega) (by omega) _).mono ?_; rintro e w' ⟨rfl, rfl⟩) | (go_at_call 14; refine (sum_own w.heap.size _ _ _ (by assumption)).mono ?_; rintro e w1 ⟨rfl, hlt, hk1, hz1, hf1⟩; have HF := Lib.hid (HF.out.on hf1); clear hf1) | (go_at_call 25; refine (least_ref _ _ _ _ _).mono ?_; rintro e w' ⟨rfl, hf⟩) | rw [rounds_succ] | refine wp_loop_rounds 6 ?_)
      go_roundw
      case rel => refine ⟨4, by go_num, .inr (.inr (.inr (.inr (⟨rfl, ?_⟩)))), ?_, ?_⟩ <;> first | exact own4_mk (by go_simp) (by go_simp) (by go_simp) (by go_simp) (by go_simp) (by go_simp) (by go_simp) (by go_simp) | (simp; done) | (simpa using hlt) | exact Lib.hid (by repeat (first | with_reducible exact HF.out | with_reducible refine Fresh.set_ ?_ (Nat.le_refl _) _))
      case measure => simp [intOf]
    · go_wp2_with (first | (go_at_call 23; refine (lets_ref _ _ _).mono ?_; rintro e w' ⟨rfl, rfl⟩) | (go_at_call 24; refine (of_ref _ (by omega) (by omega) _).mono ?_; rintro e w' ⟨rfl, rfl⟩) | (go_at_call 14; refine (sum_own w.heap.size _ _ _ (by assumption)).mono ?_; rintro e w1 ⟨rfl, hlt, hk1, hz1, hf1⟩; have HF := Lib.hid (HF.out.on hf1); clear hf1) | (go_at_call 25; refine (least_ref _ _ _ _ _).mono ?_; rintro e w' ⟨rfl, hf⟩) | rw [rounds_succ] | refine wp_loop_rounds 6 ?_)
      go_ret
      exact ⟨ret_int (by rw [E.out, X.out, Y.out]; rfl), HF.out.on hf⟩
set_option maxRecDepth 100000 in
set_option maxHeartbeats 4000000 in
theorem scale_21 (m u : Int) (h0 : 0 ≤ m) (h1 : m ≤ 255) (y : knownF m = 2) (x : cu u = 1) (a0 : letsF u 0 = false) (a1 : letsF u 1 = true) (a2 : letsF u 2 = false) (a3 : letsF u 3 = false) (w : World) :
    Calls Tryd.prog 15 #[.int .u8 m, .int .u8 u] w fun e w' => e = .returned (.int .u8 (scaleF m u)) ∧ Fresh w w' := by
  have E := Lib.hid (scaleF_c m u)
  have c00 : letsF 0 0 = true := rfl
  have c01 : letsF 0 1 = false := rfl
  have c02 : letsF 0 2 = false := rfl
  have c03 : letsF 0 3 = false := rfl
  have c10 : letsF 1 0 = false := rfl
  have c11 : letsF 1 1 = true := rfl
  have c12 : letsF 1 2 = false := rfl
  have c13 : letsF 1 3 = false := rfl
  have c20 : letsF 2 0 = true := rfl
  have c21 : letsF 2 1 = true := rfl
  have c22 : letsF 2 2 = false := rfl
  have c23 : letsF 2 3 = false := rfl
  have c30 : letsF 3 0 = true := rfl
  have c31 : letsF 3 1 = true := rfl
  have c32 : letsF 3 2 = true := rfl
  have c33 : letsF 3 3 = true := rfl
  have s0 : sumF [0, u] = 1 := by rw [sum_tab, x]; rfl
  have s1 : sumF [1, u] = 3 := by rw [sum_tab, x]; rfl
  have s3 : sumF [3, u] = 3 := by rw [sum_tab, x]; rfl
  have X := Lib.hid x
  have Y := Lib.hid y
  clear x
  go_enter Tryd.func15, Tryd.ntmps15
  go_wp2
  go_loopw [6] (fun t wr => ∃ k : Nat, t = .int .i64 k ∧ (k = 0 ∧ Own4 wr w.heap.size false false false false ∨ k = 1 ∧ Own4 wr w.heap.size true false false false ∨ k = 2 ∧ Own4 wr w.heap.size true true false false ∨ k = 3 ∧ Own4 wr w.heap.size true true false false ∨ k = 4 ∧ Own4 wr w.heap.size true true false false) ∧ Hid (Fresh w wr) ∧ w.heap.size < wr.heap.size) (fun t _ => 4 - (intOf t).toNat)
  case atStart => exact ⟨0, rfl, .inl ⟨rfl, own4_mk (by simp) (by simp) (by simp) (by simp) (by simp) (by simp) (by simp) (by simp)⟩, Lib.hid ((Fresh.refl _).alloc _ _), by simp⟩
  case round =>
    obtain ⟨k, rfl, hk, HF, hlt⟩ := hrel
    rcases hk with ⟨rfl, ⟨q0, q1, q2, q3⟩, z0, z1, z2, z3⟩ | ⟨rfl, ⟨q0, q1, q2, q3⟩, z0, z1, z2, z3⟩ | ⟨rfl, ⟨q0, q1, q2, q3⟩, z0, z1, z2, z3⟩ | ⟨rfl, ⟨q0, q1, q2, q3⟩, z0, z1, z2, z3⟩ | ⟨rfl, ⟨q0, q1, q2, q3⟩, z0, z1, z2, z3⟩
    · go_wp2_with (first | (go_at_call 23; refine (lets_ref _ _ _).mono ?_; rintro e w' ⟨rfl, rfl⟩) | (go_at_call 24; refine (of_ref _ (by omega) (by omega) _).mono ?_; rintro e w' ⟨rfl, rfl⟩) | (go_at_call 14; refine (sum_own w.heap.size _ _ _ (by assumption)).mono ?_; rintro e w1 ⟨rfl, hlt, hk1, hz1, hf1⟩; have HF := Lib.hid (HF.out.on hf1); clear hf1) | (go_at_call 25; refine (least_ref _ _ _ _ _).mono ?_; rintro e w' ⟨rfl, hf⟩) | rw [rounds_succ] | refine wp_loop_rounds 6 ?_)
      go_roundw
      case rel => refine ⟨1, by go_num, .inr (.inl ⟨rfl, ?_⟩), ?_, ?_⟩ <;> first | exact own4_mk (by go_simp) (by go_simp) (by go_simp) (by go_simp) (by go_simp) (by go_simp) (by go_simp) (by go_simp) | (simp; done) | (simpa using hlt) | exact Lib.hid (by repeat (first | with_reducible exact HF.out | with_reducible refine Fresh.set_ ?_ (Nat.le_refl _) _))
      case measure => simp [intOf]
    · go_wp2_with (first | (go_at_call 23; refine (lets_ref _ _ _).mono ?_; rintro e w' ⟨rfl, rfl⟩) | (go_at_call 24; refine (of_ref _ (by omega) (by omega) _).mono ?_; rintro e w' ⟨rfl, rfl⟩) | (go_at_call 14; refine (sum_own w.heap.size _ _ _ (by assumption)).mono ?_; rintro e w1 ⟨rfl, hlt, hk1, hz1, hf1⟩; have HF := Lib.hid (HF.out.on hf1); clear hf1) | (go_at_call 25; refine (least_ref _ _ _ _ _).mono ?_; rintro e w' ⟨rfl, hf⟩) | rw [rounds_succ] | refine wp_loop_rounds 6 ?_)
      go_roundw
      case rel => refine ⟨2, by go_num, .inr (.inr (.inl ⟨rfl, ?_⟩)), ?_, ?_⟩ <;> first | exact own4_mk (by go_simp) (by go_simp) (by go_simp) (by go_simp) (by go_simp) (by go_simp) (by go_simp) (by go_simp) | (simp; done) | (simpa using hlt) | exact Lib.hid (by repeat (first | with_reducible exact HF.out | with_reducible refine Fresh.set_ ?_ (Nat.le_refl _) _))
      case measure => simp [intOf]
    · go_wp2_with (first | (go_at_call 23; refine (lets_ref _ _ _).mono ?_; rintro e w' ⟨rfl, rfl⟩) | (go_at_call 24; refine (of_ref _ (by omega) (by omega) _).mono ?_; rintro e w' ⟨rfl, rfl⟩) | (go_at_call 14; refine (sum_own w.heap.size _ _ _ (by assumption)).mono ?_; rintro e w1 ⟨rfl, hlt, hk1, hz1, hf1⟩; have HF := Lib.hid (HF.out.on hf1); clear hf1) | (go_at_call 25; refine (least_ref _ _ _ _ _).mono ?_; rintro e w' ⟨rfl, hf⟩) | rw [rounds_succ] | refine wp_loop_rounds 6 ?_)
      go_roundw
      case rel => refine ⟨3, by go_num, .inr (.inr (.inr (.inl ⟨rfl, ?_⟩))), ?_, ?_⟩ <;> first | exact own4_mk (by go_simp) (by go_simp) (by go_simp) (by go_simp) (by go_simp) (by go_simp) (by go_simp) (by go_simp) | (simp; done) | (simpa using hlt) | exact Lib.hid (by repeat (first | with_reducible exact HF.out | with_reducible refine Fresh.set_ ?_ (Nat.le_refl _) _))
      case measure => simp [intOf]
    · go_wp2_with (first | (go_at_call 23; refine (lets_ref _ _ _).mono ?_; rintro e w' ⟨rfl, rfl⟩) | (go_at_call 24; refine (of_ref _ (by omega) (by omega) _).mono ?_; rintro e w' ⟨rfl, rfl⟩) | (go_at_call 14; refine (sum_own w.heap.size _ _ _ (by assumption)).mono ?_; rintro e w1 ⟨rfl, hlt, hk1, hz1, hf1⟩; have HF := Lib.hid (HF.out.on hf1); clear hf1) | (go_at_call 25; refine (least_ref _ _ _ _ _).mono ?_; rintro e w' ⟨rfl, hf⟩) | rw [rounds_succ] | refine wp_loop_rounds 6 ?_)
      go_roundw
      case rel => refine ⟨4, by go_num, .inr (.inr (.inr (.inr (⟨rfl, ?_⟩)))), ?_, ?_⟩ <;> first | exact own4_mk (by go_simp) (by go_simp) (by go_simp) (by go_simp) (by go_simp) (by go_simp) (by go_simp) (by go_simp) | (simp; done) | (simpa using hlt) | exact Lib.hid (by repeat (first | with_reducible exact HF.out | with_reducible refine Fresh.set_ ?_ (Nat.le_refl _) _))
      case measure => simp [intOf]
    · go_wp2_with (first | (go_at_call 23; refine (lets_ref _ _ _).mono ?_; rintro e w' ⟨rfl, rfl⟩) | (go_at_call 24; refine (of_ref _ (by omega) (by omega) _).mono ?_; rintro e w' ⟨rfl, rfl⟩) | (go_at_call 14; refine (sum_own w.heap.size _ _ _ (by assumption)).mono ?_; rintro e w1 ⟨rfl, hlt, hk1, hz1, hf1⟩; have HF := Lib.hid (HF.out.on hf1); clear hf1) | (go_at_call 25; refine (least_ref _ _ _ _ _).mono ?_; rintro e w' ⟨rfl, hf⟩) | rw [rounds_succ] | refine wp_loop_rounds 6 ?_)
      go_ret
      exact ⟨ret_int (by rw [E.out, X.out, Y.out]; rfl), HF.out.on hf⟩
set_option maxRecDepth 100000 in
set_option maxHeartbeats 4000000 in
theorem scale_22 (m u : Int) (h0 : 0 ≤ m) (h1 : m ≤ 255) (y : knownF m = 2) (x : cu u = 2) (a0 : letsF u 0 = true) (a1 : letsF u 1 = true) (a2 : letsF u 2 = false) (a3 : letsF u 3 = false) (w : World) :
    Calls Tryd.prog 15 #[.int .u8 m, .int .u8 u] w fun e w' => e = .returned (.int .u8 (scaleF m u)) ∧ Fresh w w' := by
  have E := Lib.hid (scaleF_c m u)
  have c00 : letsF 0 0 = true := rfl
  have c01 : letsF 0 1 = false := rfl
  have c02 : letsF 0 2 = false := rfl
  have c03 : letsF 0 3 = false := rfl
  have c10 : letsF 1 0 = false := rfl
  have c11 : letsF 1 1 = true := rfl
  have c12 : letsF 1 2 = false := rfl
  have c13 : letsF 1 3 = false := rfl
  have c20 : letsF 2 0 = true := rfl
  have c21 : letsF 2 1 = true := rfl
  have c22 : letsF 2 2 = false := rfl
  have c23 : letsF 2 3 = false := rfl
  have c30 : letsF 3 0 = true := rfl
  have c31 : letsF 3 1 = true := rfl
  have c32 : letsF 3 2 = true := rfl
  have c33 : letsF 3 3 = true := rfl
  have s0 : sumF [0, u] = 2 := by rw [sum_tab, x]; rfl
  have s2 : sumF [2, u] = 3 := by rw [sum_tab, x]; rfl
  have s3 : sumF [3, u] = 3 := by rw [sum_tab, x]; rfl
  have X := Lib.hid x
  have Y := Lib.hid y
  clear x
  go_enter Tryd.func15, Tryd.ntmps15
  go_wp2
  go_loopw [6] (fun t wr => ∃ k : Nat, t = .int .i64 k ∧ (k = 0 ∧ Own4 wr w.heap.size false false false false ∨ k = 1 ∧ Own4 wr w.heap.size true false false false ∨ k = 2 ∧ Own4 wr w.heap.size true true false false ∨ k = 3 ∧ Own4 wr w.heap.size true true false false ∨ k = 4 ∧ Own4 wr w.heap.size true true false false) ∧ Hid (Fresh w wr) ∧ w.heap.size < wr.heap.size) (fun t _ => 4 - (intOf t).toNat)
  case atStart => exact ⟨0, rfl, .inl ⟨rfl, own4_mk (by simp) (by simp) (by simp) (by simp) (by simp) (by simp) (by simp) (by simp)⟩, Lib.hid ((Fresh.refl _).alloc _ _), by simp⟩
  case round =>
    obtain ⟨k, rfl, hk, HF, hlt⟩ := hrel
    rcases hk with ⟨rfl, ⟨q0, q1, q2, q3⟩, z0, z1, z2, z3⟩ | ⟨rfl, ⟨q0, q1, q2, q3⟩, z0, z1, z2, z3⟩ | ⟨rfl, ⟨q0, q1, q2, q3⟩, z0, z1, z2, z3⟩ | ⟨rfl, ⟨q0, q1, q2, q3⟩, z0, z1, z2, z3⟩ | ⟨rfl, ⟨q0, q1, q2, q3⟩, z0, z1, z2, z3⟩
    · go_wp2_with (first | (go_at_call 23; refine (lets_ref _ _ _).mono ?_; rintro e w' ⟨rfl, rfl⟩) | (go_at_call 24; refine (of_ref _ (by omega) (by omega) _).mono ?_; rintro e w' ⟨rfl, rfl⟩) | (go_at_call 14; refine (sum_own w.heap.size _ _ _ (by assumption)).mono ?_; rintro e w1 ⟨rfl, hlt, hk1, hz1, hf1⟩; have HF := Lib.hid (HF.out.on hf1); clear hf1) | (go_at_call 25; refine (least_ref _ _ _ _ _).mono ?_; rintro e w' ⟨rfl, hf⟩) | rw [rounds_succ] | refine wp_loop_rounds 6 ?_)
      go_roundw
      case rel => refine ⟨1, by go_num, .inr (.inl ⟨rfl, ?_⟩), ?_, ?_⟩ <;> first | exact own4_mk (by go_simp) (by go_simp) (by go_simp) (by go_simp) (by go_simp) (by go_simp) (by go_simp) (by go_simp) | (simp; done) | (simpa using hlt) | exact Lib.hid (by repeat (first | with_reducible exact HF.out | with_reducible refine Fresh.set_ ?_ (Nat.le_refl _) _))
      case measure => simp [intOf]
    · go_wp2_with (first | (go_at_call 23; refine (lets_ref _ _ _).mono ?_; rintro e w' ⟨rfl, rfl⟩) | (go_at_call 24; refine (of_ref _ (by omega) (by omega) _).mono ?_; rintro e w' ⟨rfl, rfl⟩) | (go_at_call 14; refine (sum_own w.heap.size _ _ _ (by assumption)).mono ?_; rintro e w1 ⟨rfl, hlt, hk1, hz1, hf1⟩; have HF := Lib.hid (HF.out.on hf1); clear hf1) | (go_at_call 25; refine (least_ref _ _ _ _ _).mono ?_; rintro e w' ⟨rfl, hf⟩) | rw [rounds_succ] | refine wp_loop_rounds 6 ?_)
      go_roundw
      case rel => refine ⟨2, by go_num, .inr (.inr (.inl ⟨rfl, ?_⟩)), ?_, ?_⟩ <;> first | exact own4_mk (by go_simp) (by go_simp) (by go_simp) (by go_simp) (by go_simp) (by go_simp) (by go_simp) (by go_simp) | (simp; done) | (simpa using hlt) | exact Lib.hid (by repeat (first | with_reducible exact HF.out | with_reducible refine Fresh.set_ ?_ (Nat.le_refl _) _))
      case measure => simp [intOf]
    · go_wp2_with (first | (go_at_call 23; refine (lets_ref _ _ _).mono ?_; rintro e w' ⟨rfl, rfl⟩) | (go_at_call 24; refine (of_ref _ (by omega) (by omega) _).mono ?_; rintro e w' ⟨rfl, rfl⟩) | (go_at_call 14; refine (sum_own w.heap.size _ _ _ (by assumption)).mono ?_; rintro e w1 ⟨rfl, hlt, hk1, hz1, hf1⟩; have HF := Lib.hid (HF.out.on hf1); clear hf1) | (go_at_call 25; refine (least_ref _ _ _ _ _).mono ?_; rintro e w' ⟨rfl, hf⟩) | rw [rounds_succ] | refine wp_loop_rounds 6 ?_)
      go_roundw
      case rel => refine ⟨3, by go_num, .inr (.inr (.inr (.inl ⟨rfl, ?_⟩))), ?_, ?_⟩ <;> first | exact own4_mk (by go_simp) (by go_simp) (by go_simp) (by go_simp) (by go_simp) (by go_simp) (by go_simp) (by go_simp) | (simp; done) | (simpa using hlt) | exact Lib.hid (by repeat (first | with_reducible exact HF.out | with_reducible refine Fresh.set_ ?_ (Nat.le_refl _) _))
      case measure => simp [intOf]
    · go_wp2_with (first | (go_at_call 23; refine (lets_ref _ _ _).mono ?_; rintro e w' ⟨rfl, rfl⟩) | (go_at_call 24; refine (of_ref _ (by omega) (by omega) _).mono ?_; rintro e w' ⟨rfl, rfl⟩) | (go_at_call 14; refine (sum_own w.heap.size _ _ _ (by assumption)).mono ?_; rintro e w1 ⟨rfl, hlt, hk1, hz1, hf1⟩; have HF := Lib.hid (HF.out.on hf1); clear hf1) | (go_at_call 25; refine (least_ref _ _ _ _ _).mono ?_; rintro e w' ⟨rfl, hf⟩) | rw [rounds_succ] | refine wp_loop_rounds 6 ?_)
      go_roundw
      case rel => refine ⟨4, by go_num, .inr (.inr (.inr (.inr (⟨rfl, ?_⟩)))), ?_, ?_⟩ <;> first | exact own4_mk (by go_simp) (by go_simp) (by go_simp) (by go_simp) (by go_simp) (by go_simp) (by go_simp) (by go_simp) | (simp; done) | (simpa using hlt) | exact Lib.hid (by repeat (first | with_reducible exact HF.out | with_reducible refine Fresh.set_ ?_ (Nat.le_refl _) _))
      case measure => simp [intOf]
    · go_wp2_with (first | (go_at_call 23; refine (lets_ref _ _ _).mono ?_; rintro e w' ⟨rfl, rfl⟩) | (go_at_call 24; refine (of_ref _ (by omega) (by omega) _).mono ?_; rintro e w' ⟨rfl, rfl⟩) | (go_at_call 14; refine (sum_own w.heap.size _ _ _ (by assumption)).mono ?_; rintro e w1 ⟨rfl, hlt, hk1, hz1, hf1⟩; have HF := Lib.hid (HF.out.on hf1); clear hf1) | (go_at_call 25; refine (least_ref _ _ _ _ _).mono ?_; rintro e w' ⟨rfl, hf⟩) | rw [rounds_succ] | refine wp_loop_rounds 6 ?_)
      go_ret
      exact ⟨ret_int (by rw [E.out, X.out, Y.out]; rfl), HF.out.on hf⟩
set_option maxRecDepth 100000 in
set_option maxHeartbeats 4000000 in
theorem scale_23 (m u : Int) (h0 : 0 ≤ m) (h1 : m ≤ 255) (y : knownF m = 2) (x : cu u = 3) (a0 : letsF u 0 = true) (a1 : letsF u 1 = true) (a2 : letsF u 2 = true) (a3 : letsF u 3 = true) (w : World) :
    Calls Tryd.prog 15 #[.int .u8 m, .int .u8 u] w fun e w' => e = .returned (.int .u8 (scaleF m u)) ∧ Fresh w w' := by
  have E := Lib.hid (scaleF_c m u)
  have c00 : letsF 0 0 = true := rfl
  have c01 : letsF 0 1 = false := rfl
  have c02 : letsF 0 2 = false := rfl
  have c03 : letsF 0 3 = false := rfl
  have c10 : letsF 1 0 = false := rfl
  have c11 : letsF 1 1 = true := rfl
  have c12 : letsF 1 2 = false := rfl
  have c13 : letsF 1 3 = false := rfl
  have c20 : letsF 2 0 = true := rfl
  have c21 : letsF 2 1 = true := rfl
  have c22 : letsF 2 2 = false := rfl
  have c23 : letsF 2 3 = false := rfl
  have c30 : letsF 3 0 = true := rfl
  have c31 : letsF 3 1 = true := rfl
  have c32 : letsF 3 2 = true := rfl
  have c33 : letsF 3 3 = true := rfl
  have s0 : sumF [0, u] = 3 := by rw [sum_tab, x]; rfl
  have s3 : sumF [3, u] = 3 := by rw [sum_tab, x]; rfl
  have X := Lib.hid x
  have Y := Lib.hid y
  clear x
  go_enter Tryd.func15, Tryd.ntmps15
  go_wp2
  go_loopw [6] (fun t wr => ∃ k : Nat, t = .int .i64 k ∧ (k = 0 ∧ Own4 wr w.heap.size false false false false ∨ k = 1 ∧ Own4 wr w.heap.size true false false false ∨ k = 2 ∧ Own4 wr w.heap.size true true true true ∨ k = 3 ∧ Own4 wr w.heap.size true true true true ∨ k = 4 ∧ Own4 wr w.heap.size true true true true) ∧ Hid (Fresh w wr) ∧ w.heap.size < wr.heap.size) (fun t _ => 4 - (intOf t).toNat)
  case atStart => exact ⟨0, rfl, .inl ⟨rfl, own4_mk (by simp) (by simp) (by simp) (by simp) (by simp) (by simp) (by simp) (by simp)⟩, Lib.hid ((Fresh.refl _).alloc _ _), by simp⟩
  case round =>
    obtain ⟨k, rfl, hk, HF, hlt⟩ := hrel
    rcases hk with ⟨rfl, ⟨q0, q1, q2, q3⟩, z0, z1, z2, z3⟩ | ⟨rfl, ⟨q0, q1, q2, q3⟩, z0, z1, z2, z3⟩ | ⟨rfl, ⟨q0, q1, q2, q3⟩, z0, z1, z2, z3⟩ | ⟨rfl, ⟨q0, q1, q2, q3⟩, z0, z1, z2, z3⟩ | ⟨rfl, ⟨q0, q1, q2, q3⟩, z0, z1, z2, z3⟩
    · go_wp2_with (first | (go_at_call 23; refine (lets_ref _ _ _).mono ?_; rintro e w' ⟨rfl, rfl⟩) | (go_at_call 24; refine (of_ref _ (by omega) (by omega) _).mono ?_; rintro e w' ⟨rfl, rfl⟩) | (go_at_call 14; refine (sum_own w.heap.size _ _ _ (by assumption)).mono ?_; rintro e w1 ⟨rfl, hlt, hk1, hz1, hf1⟩; have HF := Lib.hid (HF.out.on hf1); clear hf1) | (go_at_call 25; refine (least_ref _ _ _ _ _).mono ?_; rintro e w' ⟨rfl, hf⟩) | rw [rounds_succ] | refine wp_loop_rounds 6 ?_)
      go_roundw
      case rel => refine ⟨1, by go_num, .inr (.inl ⟨rfl, ?_⟩), ?_, ?_⟩ <;> first | exact own4_mk (by go_simp) (by go_simp) (by go_simp) (by go_simp) (by go_simp) (by go_simp) (by go_simp) (by go_simp) | (simp; done) | (simpa using hlt) | exact Lib.hid (by repeat (first | with_reducible exact HF.out | with_reducible refine Fresh.set_ ?_ (Nat.le_refl _) _))
      case measure => simp [intOf]
    · go_wp2_with (first | (go_at_call 23; refine (lets_ref _ _ _).mono ?_; rintro e w' ⟨rfl, rfl⟩) | (go_at_call 24; refine (of_ref _ (by omega) (by omega) _).mono ?_; rintro e w' ⟨rfl, rfl⟩) | (go_at_call 14; refine (sum_own w.heap.size _ _ _ (by assumption)).mono ?_; rintro e w1 ⟨rfl, hlt, hk1, hz1, hf1⟩; have HF := Lib.hid (HF.out.on hf1); clear hf1) | (go_at_call 25; refine (least_ref _ _ _ _ _).mono ?_; rintro e w' ⟨rfl, hf⟩) | rw [rounds_succ] | refine wp_loop_rounds 6 ?_)
      go_roundw
      case rel => refine ⟨2, by go_num, .inr (.inr (.inl ⟨rfl, ?_⟩)), ?_, ?_⟩ <;> first | exact own4_mk (by go_simp) (by go_simp) (by go_simp) (by go_simp) (by go_simp) (by go_simp) (by go_simp) (by go_simp) | (simp; done) | (simpa using hlt) | exact Lib.hid (by repeat (first | with_reducible exact HF.out | with_reducible refine Fresh.set_ ?_ (Nat.le_refl _) _))
      case measure => simp [intOf]
    · go_wp2_with (first | (go_at_call 23; refine (lets_ref _ _ _).mono ?_; rintro e w' ⟨rfl, rfl⟩) | (go_at_call 24; refine (of_ref _ (by omega) (by omega) _).mono ?_; rintro e w' ⟨rfl, rfl⟩) | (go_at_call 14; refine (sum_own w.heap.size _ _ _ (by assumption)).mono ?_; rintro e w1 ⟨rfl, hlt, hk1, hz1, hf1⟩; have HF := Lib.hid (HF.out.on hf1); clear hf1) | (go_at_call 25; refine (least_ref _ _ _ _ _).mono ?_; rintro e w' ⟨rfl, hf⟩) | rw [rounds_succ] | refine wp_loop_rounds 6 ?_)
      go_roundw
      case rel => refine ⟨3, by go_num, .inr (.inr (.inr (.inl ⟨rfl, ?_⟩))), ?_, ?_⟩ <;> first | exact own4_mk (by go_simp) (by go_simp) (by go_simp) (by go_simp) (by go_simp) (by go_simp) (by go_simp) (by go_simp) | (simp; done) | (simpa using hlt) | exact Lib.hid (by repeat (first | with_reducible exact HF.out | with_reducible refine Fresh.set_ ?_ (Nat.le_refl _) _))
      case measure => simp [intOf]
    · go_wp2_with (first | (go_at_call 23; refine (lets_ref _ _ _).mono ?_; rintro e w' ⟨rfl, rfl⟩) | (go_at_call 24; refine (of_ref _ (by omega) (by omega) _).mono ?_; rintro e w' ⟨rfl, rfl⟩) | (go_at_call 14; refine (sum_own w.heap.size _ _ _ (by assumption)).mono ?_; rintro e w1 ⟨rfl, hlt, hk1, hz1, hf1⟩; have HF := Lib.hid (HF.out.on hf1); clear hf1) | (go_at_call 25; refine (least_ref _ _ _ _ _).mono ?_; rintro e w' ⟨rfl, hf⟩) | rw [rounds_succ] | refine wp_loop_rounds 6 ?_)
      go_roundw
      case rel => refine ⟨4, by go_num, .inr (.inr (.inr (.inr (⟨rfl, ?_⟩)))), ?_, ?_⟩ <;> first | exact own4_mk (by go_simp) (by go_simp) (by go_simp) (by go_simp) (by go_simp) (by go_simp) (by go_simp) (by go_simp) | (simp; done) | (simpa using hlt) | exact Lib.hid (by repeat (first | with_reducible exact HF.out | with_reducible refine Fresh.set_ ?_ (Nat.le_refl _) _))
      case measure => simp [intOf]
    · go_wp2_with (first | (go_at_call 23; refine (lets_ref _ _ _).mono ?_; rintro e w' ⟨rfl, rfl⟩) | (go_at_call 24; refine (of_ref _ (by omega) (by omega) _).mono ?_; rintro e w' ⟨rfl, rfl⟩) | (go_at_call 14; refine (sum_own w.heap.size _ _ _ (by assumption)).mono ?_; rintro e w1 ⟨rfl, hlt, hk1, hz1, hf1⟩; have HF := Lib.hid (HF.out.on hf1); clear hf1) | (go_at_call 25; refine (least_ref _ _ _ _ _).mono ?_; rintro e w' ⟨rfl, hf⟩) | rw [rounds_succ] | refine wp_loop_rounds 6 ?_)
      go_ret
      exact ⟨ret_int (by rw [E.out, X.out, Y.out]; rfl), HF.out.on hf⟩
set_option maxRecDepth 100000 in
set_option maxHeartbeats 4000000 in
theorem scale_30 (m u : Int) (h0 : 0 ≤ m) (h1 : m ≤ 255) (y : knownF m = 3) (x : cu u = 0) (a0 : letsF u 0 = true) (a1 : letsF u 1 = false) (a2 : letsF u 2 = false) (a3 : letsF u 3 = false) (w : World) :
    Calls Tryd.prog 15 #[.int .u8 m, .int .u8 u] w fun e w' => e = .returned (.int .u8 (scaleF m u)) ∧ Fresh w w' := by
  have E := Lib.hid (scaleF_c m u)
  have c00 : letsF 0 0 = true := rfl
  have c01 : letsF 0 1 = false := rfl
  have c02 : letsF 0 2 = false := rfl
  have c03 : letsF 0 3 = false := rfl
  have c10 : letsF 1 0 = false := rfl
  have c11 : letsF 1 1 = true := rfl
  have c12 : letsF 1 2 = false := rfl
  have c13 : letsF 1 3 = false := rfl
  have c20 : letsF 2 0 = true := rfl
  have c21 : letsF 2 1 = true := rfl
  have c22 : letsF 2 2 = false := rfl
  have c23 : letsF 2 3 = false := rfl
  have c30 : letsF 3 0 = true := rfl
  have c31 : letsF 3 1 = true := rfl
  have c32 : letsF 3 2 = true := rfl
  have c33 : letsF 3 3 = true := rfl
  have s0 : sumF [0, u] = 0 := by rw [sum_tab, x]; rfl
  have X := Lib.hid x
  have Y := Lib.hid y
  clear x
  go_enter Tryd.func15, Tryd.ntmps15
  go_wp2
  go_loopw [6] (fun t wr => ∃ k : Nat, t = .int .i64 k ∧ (k = 0 ∧ Own4 wr w.heap.size false false false false ∨ k = 1 ∧ Own4 wr w.heap.size true false false false ∨ k = 2 ∧ Own4 wr w.heap.size true false false false ∨ k = 3 ∧ Own4 wr w.heap.size true false false false ∨ k = 4 ∧ Own4 wr w.heap.size true false false false) ∧ Hid (Fresh w wr) ∧ w.heap.size < wr.heap.size) (fun t _ => 4 - (intOf t).toNat)
  case atStart => exact ⟨0, rfl, .inl ⟨rfl, own4_mk (by simp) (by simp) (by simp) (by simp) (by simp) (by simp) (by simp) (by simp)⟩, Lib.hid ((Fresh.refl _).alloc _ _), by simp⟩
  case round =>
    obtain ⟨k, rfl, hk, HF, hlt⟩ := hrel
    rcases hk with ⟨rfl, ⟨q0, q1, q2, q3⟩, z0, z1, z2, z3⟩ | ⟨rfl, ⟨q0, q1, q2, q3⟩, z0, z1, z2, z3⟩ | ⟨rfl, ⟨q0, q1, q2, q3⟩, z0, z1, z2, z3⟩ | ⟨rfl, ⟨q0, q1, q2, q3⟩, z0, z1, z2, z3⟩ | ⟨rfl, ⟨q0, q1, q2, q3⟩, z0, z1, z2, z3⟩
    · go_wp2_with (first | (go_at_call 23; refine (lets_ref _ _ _).mono ?_; rintro e w' ⟨rfl, rfl⟩) | (go_at_call 24; refine (of_ref _ (by omega) (by omega) _).mono ?_; rintro e w' ⟨rfl, rfl⟩) | (go_at_call 14; refine (sum_own w.heap.size _ _ _ (by assumption)).mono ?_; rintro e w1 ⟨rfl, hlt, hk1, hz1, hf1⟩; have HF := Lib.hid (HF.out.on hf1); clear hf1) | (go_at_call 25; refine (least_ref _ _ _ _ _).mono ?_; rintro e w' ⟨rfl, hf⟩) | rw [rounds_succ] | refine wp_loop_rounds 6 ?_)
      go_roundw
      case rel => refine ⟨1, by go_num, .inr (.inl ⟨rfl, ?_⟩), ?_, ?_⟩ <;> first | exact own4_mk (by go_simp) (by go_simp) (by go_simp) (by go_simp) (by go_simp) (by go_simp) (by go_simp) (by go_simp) | (simp; done) | (simpa using hlt) | exact Lib.hid (by repeat (first | with_reducible exact HF.out | with_reducible refine Fresh.set_ ?_ (Nat.le_refl _) _))
      case measure => simp [intOf]
    · go_wp2_with (first | (go_at_call 23; refine (lets_ref _ _ _).mono ?_; rintro e w' ⟨rfl, rfl⟩) | (go_at_call 24; refine (of_ref _ (by omega) (by omega) _).mono ?_; rintro e w' ⟨rfl, rfl⟩) | (go_at_call 14; refine (sum_own w.heap.size _ _ _ (by assumption)).mono ?_; rintro e w1 ⟨rfl, hlt, hk1, hz1, hf1⟩; have HF := Lib.hid (HF.out.on hf1); clear hf1) | (go_at_call 25; refine (least_ref _ _ _ _ _).mono ?_; rintro e w' ⟨rfl, hf⟩) | rw [rounds_succ] | refine wp_loop_rounds 6 ?_)
      go_roundw
      case rel => refine ⟨2, by go_num, .inr (.inr (.inl ⟨rfl, ?_⟩)), ?_, ?_⟩ <;> first | exact own4_mk (by go_simp) (by go_simp) (by go_simp) (by go_simp) (by go_simp) (by go_simp) (by go_simp) (by go_simp) | (simp; done) | (simpa using hlt) | exact Lib.hid (by repeat (first | with_reducible exact HF.out | with_reducible refine Fresh.set_ ?_ (Nat.le_refl _) _))
      case measure => simp [intOf]
    · go_wp2_with (first | (go_at_call 23; refine (lets_ref _ _ _).mono ?_; rintro e w' ⟨rfl, rfl⟩) | (go_at_call 24; refine (of_ref _ (by omega) (by omega) _).mono ?_; rintro e w' ⟨rfl, rfl⟩) | (go_at_call 14; refine (sum_own w.heap.size _ _ _ (by assumption)).mono ?_; rintro e w1 ⟨rfl, hlt, hk1, hz1, hf1⟩; have HF := Lib.hid (HF.out.on hf1); clear hf1) | (go_at_call 25; refine (least_ref _ _ _ _ _).mono ?_; rintro e w' ⟨rfl, hf⟩) | rw [rounds_succ] | refine wp_loop_rounds 6 ?_)
      go_roundw
      case rel => refine ⟨3, by go_num, .inr (.inr (.inr (.inl ⟨rfl, ?_⟩))), ?_, ?_⟩ <;> first | exact own4_mk (by go_simp) (by go_simp) (by go_simp) (by go_simp) (by go_simp) (by go_simp) (by go_simp) (by go_simp) | (simp; done) | (simpa using hlt) | exact Lib.hid (by repeat (first | with_reducible exact HF.out | with_reducible refine Fresh.set_ ?_ (Nat.le_refl _) _))
      case measure => simp [intOf]
    · go_wp2_with (first | (go_at_call 23; refine (lets_ref _ _ _).mono ?_; rintro e w' ⟨rfl, rfl⟩) | (go_at_call 24; refine (of_ref _ (by omega) (by omega) _).mono ?_; rintro e w' ⟨rfl, rfl⟩) | (go_at_call 14; refine (sum_own w.heap.size _ _ _ (by assumption)).mono ?_; rintro e w1 ⟨rfl, hlt, hk1, hz1, hf1⟩; have HF := Lib.hid (HF.out.on hf1); clear hf1) | (go_at_call 25; refine (least_ref _ _ _ _ _).mono ?_; rintro e w' ⟨rfl, hf⟩) | rw [rounds_succ] | refine wp_loop_rounds 6 ?_)
      go_roundw
      case rel => refine ⟨4, by go_num, .inr (.inr (.inr (.inr (⟨rfl, ?_⟩)))), ?_, ?_⟩ <;> first | exact own4_mk (by go_simp) (by go_simp) (by go_simp) (by go_simp) (by go_simp) (by go_simp) (by go_simp) (by go_simp) | (simp; done) | (simpa using hlt) | exact Lib.hid (by repeat (first | with_reducible exact HF.out | with_reducible refine Fresh.set_ ?_ (Nat.le_refl _) _))
      case measure => simp [intOf]
    · go_wp2_with (first | (go_at_call 23; refine (lets_ref _ _ _).mono ?_; rintro e w' ⟨rfl, rfl⟩) | (go_at_call 24; refine (of_ref _ (by omega) (by omega) _).mono ?_; rintro e w' ⟨rfl, rfl⟩) | (go_at_call 14; refine (sum_own w.heap.size _ _ _ (by assumption)).mono ?_; rintro e w1 ⟨rfl, hlt, hk1, hz1, hf1⟩; have HF := Lib.hid (HF.out.on hf1); clear hf1) | (go_at_call 25; refine (least_ref _ _ _ _ _).mono ?_; rintro e w' ⟨rfl, hf⟩) | rw [rounds_succ] | refine wp_loop_rounds 6 ?_)
      go_ret
      exact ⟨ret_int (by rw [E.out, X.out, Y.out]; rfl), HF.out.on hf⟩
set_option maxRecDepth 100000 in
set_option maxHeartbeats 4000000 in
theorem scale_31 (m u : Int) (h0 : 0 ≤ m) (h1 : m ≤ 255) (y : knownF m = 3) (x : cu u = 1) (a0 : letsF u 0 = false) (a1 : letsF u 1 = true) (a2 : letsF u 2 = false) (a3 : letsF u 3 = false) (w : World) :
    Calls Tryd.prog 15 #[.int .u8 m, .int .u8 u] w fun e w' => e = .returned (.int .u8 (scaleF m u)) ∧ Fresh w w' := by
  have E := Lib.hid (scaleF_c m u)
  have c00 : letsF 0 0 = true := rfl
  have c01 : letsF 0 1 = false := rfl
  have c02 : letsF 0 2 = false := rfl
  have c03 : letsF 0 3 = false := rfl
  have c10 : letsF 1 0 = false := rfl
  have c11 : letsF 1 1 = true := rfl
  have c12 : letsF 1 2 = false := rfl
  have c13 : letsF 1 3 = false := rfl
  have c20 : letsF 2 0 = true := rfl
  have c21 : letsF 2 1 = true := rfl
  have c22 : letsF 2 2 = false := rfl
  have c23 : letsF 2 3 = false := rfl
  have c30 : letsF 3 0 = true := rfl
  have c31 : letsF 3 1 = true := rfl
  have c32 : letsF 3 2 = true := rfl
  have c33 : letsF 3 3 = true := rfl
  have s0 : sumF [0, u] = 1 := by rw [sum_tab, x]; rfl
  have s1 : sumF [1, u] = 3 := by rw [sum_tab, x]; rfl
  have s3 : sumF [3, u] = 3 := by rw [sum_tab, x]; rfl
  have X := Lib.hid x
  have Y := Lib.hid y
  clear x
  go_enter Tryd.func15, Tryd.ntmps15
  go_wp2
  go_loopw [6] (fun t wr => ∃ k : Nat, t = .int .i64 k ∧ (k = 0 ∧ Own4 wr w.heap.size false false false false ∨ k = 1 ∧ Own4 wr w.heap.size true false false false ∨ k = 2 ∧ Own4 wr w.heap.size true true false false ∨ k = 3 ∧ Own4 wr w.heap.size true true true true ∨ k = 4 ∧ Own4 wr w.heap.size true true true true) ∧ Hid (Fresh w wr) ∧ w.heap.size < wr.heap.size) (fun t _ => 4 - (intOf t).toNat)
  case atStart => exact ⟨0, rfl, .inl ⟨rfl, own4_mk (by simp) (by simp) (by simp) (by simp) (by simp) (by simp) (by simp) (by simp)⟩, Lib.hid ((Fresh.refl _).alloc _ _), by simp⟩
  case round =>
    obtain ⟨k, rfl, hk, HF, hlt⟩ := hrel
    rcases hk with ⟨rfl, ⟨q0, q1, q2, q3⟩, z0, z1, z2, z3⟩ | ⟨rfl, ⟨q0, q1, q2, q3⟩, z0, z1, z2, z3⟩ | ⟨rfl, ⟨q0, q1, q2, q3⟩, z0, z1, z2, z3⟩ | ⟨rfl, ⟨q0, q1, q2, q3⟩, z0, z1, z2, z3⟩ | ⟨rfl, ⟨q0, q1, q2, q3⟩, z0, z1, z2, z3⟩
    · go_wp2_with (first | (go_at_call 23; refine (lets_ref _ _ _).mono ?_; rintro e w' ⟨rfl, rfl⟩) | (go_at_call 24; refine (of_ref _ (by omega) (by omega) _).mono ?_; rintro e w' ⟨rfl, rfl⟩) | (go_at_call 14; refine (sum_own w.heap.size _ _ _ (by assumption)).mono ?_; rintro e w1 ⟨rfl, hlt, hk1, hz1, hf1⟩; have HF := Lib.hid (HF.out.on hf1); clear hf1) | (go_at_call 25; refine (least_ref _ _ _ _ _).mono ?_; rintro e w' ⟨rfl, hf⟩) | rw [rounds_succ] | refine wp_loop_rounds 6 ?_)
      go_roundw
      case rel => refine ⟨1, by go_num, .inr (.inl ⟨rfl, ?_⟩), ?_, ?_⟩ <;> first | exact own4_mk (by go_simp) (by go_simp) (by go_simp) (by go_simp) (by go_simp) (by go_simp) (by go_simp) (by go_simp) | (simp; done) | (simpa using hlt) | exact Lib.hid (by repeat (first | with_reducible exact HF.out | with_reducible refine Fresh.set_ ?_ (Nat.le_refl _) _))
      case measure => simp [intOf]
    · go_wp2_with (first | (go_at_call 23; refine (lets_ref _ _ _).mono ?_; rintro e w' ⟨rfl, rfl⟩) | (go_at_call 24; refine (of_ref _ (by omega) (by omega) _).mono ?_; rintro e w' ⟨rfl, rfl⟩) | (go_at_call 14; refine (sum_own w.heap.size _ _ _ (by assumption)).mono ?_; rintro e w1 ⟨rfl, hlt, hk1, hz1, hf1⟩; have HF := Lib.hid (HF.out.on hf1); clear hf1) | (go_at_call 25; refine (least_ref _ _ _ _ _).mono ?_; rintro e w' ⟨rfl, hf⟩) | rw [rounds_succ] | refine wp_loop_rounds 6 ?_)
      go_roundw
      case rel => refine ⟨2, by go_num, .inr (.inr (.inl ⟨rfl, ?_⟩)), ?_, ?_⟩ <;> first | exact own4_mk (by go_simp) (by go_simp) (by go_simp) (by go_simp) (by go_simp) (by go_simp) (by go_simp) (by go_simp) | (simp; done) | (simpa using hlt) | exact Lib.hid (by repeat (first | with_reducible exact HF.out | with_reducible refine Fresh.set_ ?_ (Nat.le_refl _) _))
      case measure => simp [intOf]
    · go_wp2_with (first | (go_at_call 23; refine (lets_ref _ _ _).mono ?_; rintro e w' ⟨rfl, rfl⟩) | (go_at_call 24; refine (of_ref _ (by omega) (by omega) _).mono ?_; rintro e w' ⟨rfl, rfl⟩) | (go_at_call 14; refine (sum_own w.heap.size _ _ _ (by assumption)).mono ?_; rintro e w1 ⟨rfl, hlt, hk1, hz1, hf1⟩; have HF := Lib.hid (HF.out.on hf1); clear hf1) | (go_at_call 25; refine (least_ref _ _ _ _ _).mono ?_; rintro e w' ⟨rfl, hf⟩) | rw [rounds_succ] | refine wp_loop_rounds 6 ?_)
      go_roundw
      case rel => refine ⟨3, by go_num, .inr (.inr (.inr (.inl ⟨rfl, ?_⟩))), ?_, ?_⟩ <;> first | exact own4_mk (by go_simp) (by go_simp) (by go_simp) (by go_simp) (by go_simp) (by go_simp) (by go_simp) (by go_simp) | (simp; done) | (simpa using hlt) | exact Lib.hid (by repeat (first | with_reducible exact HF.out | with_reducible refine Fresh.set_ ?_ (Nat.le_refl _) _))
      case measure => simp [intOf]
    · go_wp2_with (first | (go_at_call 23; refine (lets_ref _ _ _).mono ?_; rintro e w' ⟨rfl, rfl⟩) | (go_at_call 24; refine (of_ref _ (by omega) (by omega) _).mono ?_; rintro e w' ⟨rfl, rfl⟩) | (go_at_call 14; refine (sum_own w.heap.size _ _ _ (by assumption)).mono ?_; rintro e w1 ⟨rfl, hlt, hk1, hz1, hf1⟩; have HF := Lib.hid (HF.out.on hf1); clear hf1) | (go_at_call 25; refine (least_ref _ _ _ _ _).mono ?_; rintro e w' ⟨rfl, hf⟩) | rw [rounds_succ] | refine wp_loop_rounds 6 ?_)
      go_roundw
      case rel => refine ⟨4, by go_num, .inr (.inr (.inr (.inr (⟨rfl, ?_⟩)))), ?_, ?_⟩ <;> first | exact own4_mk (by go_simp) (by go_simp) (by go_simp) (by go_simp) (by go_simp) (by go_simp) (by go_simp) (by go_simp) | (simp; done) | (simpa using hlt) | exact Lib.hid (by repeat (first | with_reducible exact HF.out | with_reducible refine Fresh.set_ ?_ (Nat.le_refl _) _))
      case measure => simp [intOf]
    · go_wp2_with (first | (go_at_call 23; refine (lets_ref _ _ _).mono ?_; rintro e w' ⟨rfl, rfl⟩) | (go_at_call 24; refine (of_ref _ (by omega) (by omega) _).mono ?_; rintro e w' ⟨rfl, rfl⟩) | (go_at_call 14; refine (sum_own w.heap.size _ _ _ (by assumption)).mono ?_; rintro e w1 ⟨rfl, hlt, hk1, hz1, hf1⟩; have HF := Lib.hid (HF.out.on hf1); clear hf1) | (go_at_call 25; refine (least_ref _ _ _ _ _).mono ?_; rintro e w' ⟨rfl, hf⟩) | rw [rounds_succ] | refine wp_loop_rounds 6 ?_)
      go_ret
      exact ⟨ret_int (by rw [E.out, X.out, Y.out]; rfl), HF.out.on hf⟩
set_option maxRecDepth 100000 in
set_option maxHeartbeats 4000000 in
theorem scale_32 (m u : Int) (h0 : 0 ≤ m) (h1 : m ≤ 255) (y : knownF m = 3) (x : cu u = 2) (a0 : letsF u 0 = true) (a1 : letsF u 1 = true) (a2 : letsF u 2 = false) (a3 : letsF u 3 = false) (w : World) :
    Calls Tryd.prog 15 #[.int .u8 m, .int .u8 u] w fun e w' => e = .returned (.int .u8 (scaleF m u)) ∧ Fresh w w' := by
  have E := Lib.hid (scaleF_c m u)
  have c00 : letsF 0 0 = true := rfl
  have c01 : letsF 0 1 = false := rfl
  have c02 : letsF 0 2 = false := rfl
  have c03 : letsF 0 3 = false := rfl
  have c10 : letsF 1 0 = false := rfl
  have c11 : letsF 1 1 = true := rfl
  have c12 : letsF 1 2 = false := rfl
  have c13 : letsF 1 3 = false := rfl
  have c20 : letsF 2 0 = true := rfl
  have c21 : letsF 2 1 = true := rfl
  have c22 : letsF 2 2 = false := rfl
  have c23 : letsF 2 3 = false := rfl
  have c30 : letsF 3 0 = true := rfl
  have c31 : letsF 3 1 = true := rfl
  have c32 : letsF 3 2 = true := rfl
  have c33 : letsF 3 3 = true := rfl
  have s0 : sumF [0, u] = 2 := by rw [sum_tab, x]; rfl
  have s2 : sumF [2, u] = 3 := by rw [sum_tab, x]; rfl
  have s3 : sumF [3, u] = 3 := by rw [sum_tab, x]; rfl
  have X := Lib.hid x
  have Y := Lib.hid y
  clear x
  go_enter Tryd.func15, Tryd.ntmps15
  go_wp2
  go_loopw [6] (fun t wr => ∃ k : Nat, t = .int .i64 k ∧ (k = 0 ∧ Own4 wr w.heap.size false false false false ∨ k = 1 ∧ Own4 wr w.heap.size true false false false ∨ k = 2 ∧ Own4 wr w.heap.size true true false false ∨ k = 3 ∧ Own4 wr w.heap.size true true true true ∨ k = 4 ∧ Own4 wr w.heap.size true true true true) ∧ Hid (Fresh w wr) ∧ w.heap.size < wr.heap.size) (fun t _ => 4 - (intOf t).toNat)
  case atStart => exact ⟨0, rfl, .inl ⟨rfl, own4_mk (by simp) (by simp) (by simp) (by simp) (by simp) (by simp) (by simp) (by simp)⟩, Lib.hid ((Fresh.refl _).alloc _ _), by simp⟩
  case round =>
    obtain ⟨k, rfl, hk, HF, hlt⟩ := hrel
    rcases hk with ⟨rfl, ⟨q0, q1, q2, q3⟩, z0, z1, z2, z3⟩ | ⟨rfl, ⟨q0, q1, q2, q3⟩, z0, z1, z2, z3⟩ | ⟨rfl, ⟨q0, q1, q2, q3⟩, z0, z1, z2, z3⟩ | ⟨rfl, ⟨q0, q1, q2, q3⟩, z0, z1, z2, z3⟩ | ⟨rfl, ⟨q0, q1, q2, q3⟩, z0, z1, z2, z3⟩
    · go_wp2_with (first | (go_at_call 23; refine (lets_ref _ _ _).mono ?_; rintro e w' ⟨rfl, rfl⟩) | (go_at_call 24; refine (of_ref _ (by omega) (by omega) _).mono ?_; rintro e w' ⟨rfl, rfl⟩) | (go_at_call 14; refine (sum_own w.heap.size _ _ _ (by assumption)).mono ?_; rintro e w1 ⟨rfl, hlt, hk1, hz1, hf1⟩; have HF := Lib.hid (HF.out.on hf1); clear hf1) | (go_at_call 25; refine (least_ref _ _ _ _ _).mono ?_; rintro e w' ⟨rfl, hf⟩) | rw [rounds_succ] | refine wp_loop_rounds 6 ?_)
      go_roundw
      case rel => refine ⟨1, by go_num, .inr (.inl ⟨rfl, ?_⟩), ?_, ?_⟩ <;> first | exact own4_mk (by go_simp) (by go_simp) (by go_simp) (by go_simp) (by go_simp) (by go_simp) (by go_simp) (by go_simp) | (simp; done) | (simpa using hlt) | exact Lib.hid (by repeat (first | with_reducible exact HF.out | with_reducible refine Fresh.set_ ?_ (Nat.le_refl _) _))
      case measure => simp [intOf]
    · go_wp2_with (first | (go_at_call 23; refine (lets_ref _ _ _).mono ?_; rintro e w' ⟨rfl, rfl⟩) | (go_at_call 24; refine (of_ref _ (by omega) (by omega) _).mono ?_; rintro e w' ⟨rfl, rfl⟩) | (go_at_call 14; refine (sum_own w.heap.size _ _ _ (by assumption)).mono ?_; rintro e w1 ⟨rfl, hlt, hk1, hz1, hf1⟩; have HF := Lib.hid (HF.out.on hf1); clear hf1) | (go_at_call 25; refine (least_ref _ _ _ _ _).mono ?_; rintro e w' ⟨rfl, hf⟩) | rw [rounds_succ] | refine wp_loop_rounds 6 ?_)
      go_roundw
      case rel => refine ⟨2, by go_num, .inr (.inr (.inl ⟨rfl, ?_⟩)), ?_, ?_⟩ <;> first | exact own4_mk (by go_simp) (by go_simp) (by go_simp) (by go_simp) (by go_simp) (by go_simp) (by go_simp) (by go_simp) | (simp; done) | (simpa using hlt) | exact Lib.hid (by repeat (first | with_reducible exact HF.out | with_reducible refine Fresh.set_ ?_ (Nat.le_refl _) _))
      case measure => simp [intOf]
    · go_wp2_with (first | (go_at_call 23; refine (lets_ref _ _ _).mono ?_; rintro e w' ⟨rfl, rfl⟩) | (go_at_call 24; refine (of_ref _ (by omega) (by omega) _).mono ?_; rintro e w' ⟨rfl, rfl⟩) | (go_at_call 14; refine (sum_own w.heap.size _ _ _ (by assumption)).mono ?_; rintro e w1 ⟨rfl, hlt, hk1, hz1, hf1⟩; have HF := Lib.hid (HF.out.on hf1); clear hf1) | (go_at_call 25; refine (least_ref _ _ _ _ _).mono ?_; rintro e w' ⟨rfl, hf⟩) | rw [rounds_succ] | refine wp_loop_rounds 6 ?_)
      go_roundw
      case rel => refine ⟨3, by go_num, .inr (.inr (.inr (.inl ⟨rfl, ?_⟩))), ?_, ?_⟩ <;> first | exact own4_mk (by go_simp) (by go_simp) (by go_simp) (by go_simp) (by go_simp) (by go_simp) (by go_simp) (by go_simp) | (simp; done) | (simpa using hlt) | exact Lib.hid (by repeat (first | with_reducible exact HF.out | with_reducible refine Fresh.set_ ?_ (Nat.le_refl _) _))
      case measure => simp [intOf]
    · go_wp2_with (first | (go_at_call 23; refine (lets_ref _ _ _).mono ?_; rintro e w' ⟨rfl, rfl⟩) | (go_at_call 24; refine (of_ref _ (by omega) (by omega) _).mono ?_; rintro e w' ⟨rfl, rfl⟩) | (go_at_call 14; refine (sum_own w.heap.size _ _ _ (by assumption)).mono ?_; rintro e w1 ⟨rfl, hlt, hk1, hz1, hf1⟩; have HF := Lib.hid (HF.out.on hf1); clear hf1) | (go_at_call 25; refine (least_ref _ _ _ _ _).mono ?_; rintro e w' ⟨rfl, hf⟩) | rw [rounds_succ] | refine wp_loop_rounds 6 ?_)
      go_roundw
      case rel => refine ⟨4, by go_num, .inr (.inr (.inr (.inr (⟨rfl, ?_⟩)))), ?_, ?_⟩ <;> first | exact own4_mk (by go_simp) (by go_simp) (by go_simp) (by go_simp) (by go_simp) (by go_simp) (by go_simp) (by go_simp) | (simp; done) | (simpa using hlt) | exact Lib.hid (by repeat (first | with_reducible exact HF.out | with_reducible refine Fresh.set_ ?_ (Nat.le_refl _) _))
      case measure => simp [intOf]
    · go_wp2_with (first | (go_at_call 23; refine (lets_ref _ _ _).mono ?_; rintro e w' ⟨rfl, rfl⟩) | (go_at_call 24; refine (of_ref _ (by omega) (by omega) _).mono ?_; rintro e w' ⟨rfl, rfl⟩) | (go_at_call 14; refine (sum_own w.heap.size _ _ _ (by assumption)).mono ?_; rintro e w1 ⟨rfl, hlt, hk1, hz1, hf1⟩; have HF := Lib.hid (HF.out.on hf1); clear hf1) | (go_at_call 25; refine (least_ref _ _ _ _ _).mono ?_; rintro e w' ⟨rfl, hf⟩) | rw [rounds_succ] | refine wp_loop_rounds 6 ?_)
      go_ret
      exact ⟨ret_int (by rw [E.out, X.out, Y.out]; rfl), HF.out.on hf⟩
set_option maxRecDepth 100000 in
set_option maxHeartbeats 4000000 in
theorem scale_33 (m u : Int) (h0 : 0 ≤ m) (h1 : m ≤ 255) (y : knownF m = 3) (x : cu u = 3) (a0 : letsF u 0 = true) (a1 : letsF u 1 = true) (a2 : letsF u 2 = true) (a3 : letsF u 3 = true) (w : World) :
    Calls Tryd.prog 15 #[.int .u8 m, .int .u8 u] w fun e w' => e = .returned (.int .u8 (scaleF m u)) ∧ Fresh w w' := by
  have E := Lib.hid (scaleF_c m u)
  have c00 : letsF 0 0 = true := rfl
  have c01 : letsF 0 1 = false := rfl
  have c02 : letsF 0 2 = false := rfl
  have c03 : letsF 0 3 = false := rfl
  have c10 : letsF 1 0 = false := rfl
  have c11 : letsF 1 1 = true := rfl
  have c12 : letsF 1 2 = false := rfl
  have c13 : letsF 1 3 = false := rfl
  have c20 : letsF 2 0 = true := rfl
  have c21 : letsF 2 1 = true := rfl
  have c22 : letsF 2 2 = false := rfl
  have c23 : letsF 2 3 = false := rfl
  have c30 : letsF 3 0 = true := rfl
  have c31 : letsF 3 1 = true := rfl
  have c32 : letsF 3 2 = true := rfl
  have c33 : letsF 3 3 = true := rfl
  have s0 : sumF [0, u] = 3 := by rw [sum_tab, x]; rfl
  have s3 : sumF [3, u] = 3 := by rw [sum_tab, x]; rfl
  have X := Lib.hid x
  have Y := Lib.hid y
  clear x
  go_enter Tryd.func15, Tryd.ntmps15
  go_wp2
  go_loopw [6] (fun t wr => ∃ k : Nat, t = .int .i64 k ∧ (k = 0 ∧ Own4 wr w.heap.size false false false false ∨ k = 1 ∧ Own4 wr w.heap.size true false false false ∨ k = 2 ∧ Own4 wr w.heap.size true true true true ∨ k = 3 ∧ Own4 wr w.heap.size true true true true ∨ k = 4 ∧ Own4 wr w.heap.size true true true true) ∧ Hid (Fresh w wr) ∧ w.heap.size < wr.heap.size) (fun t _ => 4 - (intOf t).toNat)
  case atStart => exact ⟨0, rfl, .inl ⟨rfl, own4_mk (by simp) (by simp) (by simp) (by simp) (by simp) (by simp) (by simp) (by simp)⟩, Lib.hid ((Fresh.refl _).alloc _ _), by simp⟩
  case round =>
    obtain ⟨k, rfl, hk, HF, hlt⟩ := hrel
    rcases hk with ⟨rfl, ⟨q0, q1, q2, q3⟩, z0, z1, z2, z3⟩ | ⟨rfl, ⟨q0, q1, q2, q3⟩, z0, z1, z2, z3⟩ | ⟨rfl, ⟨q0, q1, q2, q3⟩, z0, z1, z2, z3⟩ | ⟨rfl, ⟨q0, q1, q2, q3⟩, z0, z1, z2, z3⟩ | ⟨rfl, ⟨q0, q1, q2, q3⟩, z0, z1, z2, z3⟩
    · go_wp2_with (first | (go_at_call 23; refine (lets_ref _ _ _).mono ?_; rintro e w' ⟨rfl, rfl⟩) | (go_at_call 24; refine (of_ref _ (by omega) (by omega) _).mono ?_; rintro e w' ⟨rfl, rfl⟩) | (go_at_call 14; refine (sum_own w.heap.size _ _ _ (by assumption)).mono ?_; rintro e w1 ⟨rfl, hlt, hk1, hz1, hf1⟩; have HF := Lib.hid (HF.out.on hf1); clear hf1) | (go_at_call 25; refine (least_ref _ _ _ _ _).mono ?_; rintro e w' ⟨rfl, hf⟩) | rw [rounds_succ] | refine wp_loop_rounds 6 ?_)
      go_roundw
      case rel => refine ⟨1, by go_num, .inr (.inl ⟨rfl, ?_⟩), ?_, ?_⟩ <;> first | exact own4_mk (by go_simp) (by go_simp) (by go_simp) (by go_simp) (by go_simp) (by go_simp) (by go_simp) (by go_simp) | (simp; done) | (simpa using hlt) | exact Lib.hid (by repeat (first | with_reducible exact HF.out | with_reducible refine Fresh.set_ ?_ (Nat.le_refl _) _))
      case measure => simp [intOf]
    · go_wp2_with (first | (go_at_call 23; refine (lets_ref _ _ _).mono ?_; rintro e w' ⟨rfl, rfl⟩) | (go_at_call 24; refine (of_ref _ (by omega) (by omega) _).mono ?_; rintro e w' ⟨rfl, rfl⟩) | (go_at_call 14; refine (sum_own w.heap.size _ _ _ (by assumption)).mono ?_; rintro e w1 ⟨rfl, hlt, hk1, hz1, hf1⟩; have HF := Lib.hid (HF.out.on hf1); clear hf1) | (go_at_call 25; refine (least_ref _ _ _ _ _).mono ?_; rintro e w' ⟨rfl, hf⟩) | rw [rounds_succ] | refine wp_loop_rounds 6 ?_)
      go_roundw
      case rel => refine ⟨2, by go_num, .inr (.inr (.inl ⟨rfl, ?_⟩)), ?_, ?_⟩ <;> first | exact own4_mk (by go_simp) (by go_simp) (by go_simp) (by go_simp) (by go_simp) (by go_simp) (by go_simp) (by go_simp) | (simp; done) | (simpa using hlt) | exact Lib.hid (by repeat (first | with_reducible exact HF.out | with_reducible refine Fresh.set_ ?_ (Nat.le_refl _) _))
      case measure => simp [intOf]
    · go_wp2_with (first | (go_at_call 23; refine (lets_ref _ _ _).mono ?_; rintro e w' ⟨rfl, rfl⟩) | (go_at_call 24; refine (of_ref _ (by omega) (by omega) _).mono ?_; rintro e w' ⟨rfl, rfl⟩) | (go_at_call 14; refine (sum_own w.heap.size _ _ _ (by assumption)).mono ?_; rintro e w1 ⟨rfl, hlt, hk1, hz1, hf1⟩; have HF := Lib.hid (HF.out.on hf1); clear hf1) | (go_at_call 25; refine (least_ref _ _ _ _ _).mono ?_; rintro e w' ⟨rfl, hf⟩) | rw [rounds_succ] | refine wp_loop_rounds 6 ?_)
      go_roundw
      case rel => refine ⟨3, by go_num, .inr (.inr (.inr (.inl ⟨rfl, ?_⟩))), ?_, ?_⟩ <;> first | exact own4_mk (by go_simp) (by go_simp) (by go_simp) (by go_simp) (by go_simp) (by go_simp) (by go_simp) (by go_simp) | (simp; done) | (simpa using hlt) | exact Lib.hid (by repeat (first | with_reducible exact HF.out | with_reducible refine Fresh.set_ ?_ (Nat.le_refl _) _))
      case measure => simp [intOf]
    · go_wp2_with (first | (go_at_call 23; refine (lets_ref _ _ _).mono ?_; rintro e w' ⟨rfl, rfl⟩) | (go_at_call 24; refine (of_ref _ (by omega) (by omega) _).mono ?_; rintro e w' ⟨rfl, rfl⟩) | (go_at_call 14; refine (sum_own w.heap.size _ _ _ (by assumption)).mono ?_; rintro e w1 ⟨rfl, hlt, hk1, hz1, hf1⟩; have HF := Lib.hid (HF.out.on hf1); clear hf1) | (go_at_call 25; refine (least_ref _ _ _ _ _).mono ?_; rintro e w' ⟨rfl, hf⟩) | rw [rounds_succ] | refine wp_loop_rounds 6 ?_)
      go_roundw
      case rel => refine ⟨4, by go_num, .inr (.inr (.inr (.inr (⟨rfl, ?_⟩)))), ?_, ?_⟩ <;> first | exact own4_mk (by go_simp) (by go_simp) (by go_simp) (by go_simp) (by go_simp) (by go_simp) (by go_simp) (by go_simp) | (simp; done) | (simpa using hlt) | exact Lib.hid (by repeat (first | with_reducible exact HF.out | with_reducible refine Fresh.set_ ?_ (Nat.le_refl _) _))
      case measure => simp [intOf]
    · go_wp2_with (first | (go_at_call 23; refine (lets_ref _ _ _).mono ?_; rintro e w' ⟨rfl, rfl⟩) | (go_at_call 24; refine (of_ref _ (by omega) (by omega) _).mono ?_; rintro e w' ⟨rfl, rfl⟩) | (go_at_call 14; refine (sum_own w.heap.size _ _ _ (by assumption)).mono ?_; rintro e w1 ⟨rfl, hlt, hk1, hz1, hf1⟩; have HF := Lib.hid (HF.out.on hf1); clear hf1) | (go_at_call 25; refine (least_ref _ _ _ _ _).mono ?_; rintro e w' ⟨rfl, hf⟩) | rw [rounds_succ] | refine wp_loop_rounds 6 ?_)
      go_ret
      exact ⟨ret_int (by rw [E.out, X.out, Y.out]; rfl), HF.out.on hf⟩

theorem scale_ref (m u : Int) (h0 : 0 ≤ m) (h1 : m ≤ 255) (w : World) :
    Calls Tryd.prog 15 #[.int .u8 m, .int .u8 u] w fun e w' => e = .returned (.int .u8 (scaleF m u)) ∧ Fresh w w' := by
  rcases lets_row u with ⟨x, a0, a1, a2, a3⟩ | ⟨x, a0, a1, a2, a3⟩ | ⟨x, a0, a1, a2, a3⟩ | ⟨x, a0, a1, a2, a3⟩ <;> rcases cm_cases m with y | y | y
  · exact scale_10 m u h0 h1 y x a0 a1 a2 a3 w
  · exact scale_20 m u h0 h1 y x a0 a1 a2 a3 w
  · exact scale_30 m u h0 h1 y x a0 a1 a2 a3 w
  · exact scale_11 m u h0 h1 y x a0 a1 a2 a3 w
  · exact scale_21 m u h0 h1 y x a0 a1 a2 a3 w
  · exact scale_31 m u h0 h1 y x a0 a1 a2 a3 w
  · exact scale_12 m u h0 h1 y x a0 a1 a2 a3 w
  · exact scale_22 m u h0 h1 y x a0 a1 a2 a3 w
  · exact scale_32 m u h0 h1 y x a0 a1 a2 a3 w
  · exact scale_13 m u h0 h1 y x a0 a1 a2 a3 w
  · exact scale_23 m u h0 h1 y x a0 a1 a2 a3 w
  · exact scale_33 m u h0 h1 y x a0 a1 a2 a3 w
end Go.Proofs.YtjbnmfgmkcgglaaDoor.Mu
