/-
  A code point's bytes, as the document's own function tells them.
-/
import Derived.Test.YtaiogbokmglofaaUtfA
namespace Go.Proofs.Ytaiogbokmglofaa.Mu
open Go.RowKit Go.Shelf

set_option maxHeartbeats 1000000 in
theorem rbytes_any {c : Int} (hc : cpB c = true) (w : World) :
    Calls Try.prog 22 #[.int .i64 c] w fun e w' => e = .returned (.string (Utf8.encode c)) ∧ Bel w w' := by
  have hb := (cpB_iff c).1 hc
  have h0 : 0 ≤ c := by omega
  have h9 : c ≤ 1114111 := by omega
  have HC := Lib.hid hc
  clear hc hb
  rcases Int.lt_or_le c 128 with h1 | h1
  · have hw : wid c = 1 := by unfold wid; rw [if_pos h1]
    go_enter Try.func22, Try.ntmps22
    go_wp2_with (go_at_call 21; refine (rwidth_any _ _).mono ?_; rintro e w1 ⟨rfl, rfl⟩)
    rw [bytes_str (t := 5) [c] (by simpa using blk1 w _) 1 rfl 1]
    go_wp2
    go_ret
    refine ⟨?_, (Bel.refl _).alloc _⟩
    rw [← enc_eq c, enc1 h0 h1]
    rfl
  rcases Int.lt_or_le c 2048 with h2 | h2
  · have hw : wid c = 2 := by unfold wid; rw [if_neg (by omega), if_pos h2]
    have hmk : (Instr.makeSlice 55 (.int .i64 2) (.int .i64 2)).run Try.prog w = .ok (.slice (some ⟨w.heap.size, 0, none⟩) 2 2) (w.alloc (.cells #[.int .u8 0, .int .u8 0] 5)) := by
      have h := mk_u8 2 (by omega) w
      rw [show madeCells #[Value.int .u8 0] 2 = #[.int .u8 0, .int .u8 0] by kernel_rfl] at h
      exact h
    go_enter Try.func22, Try.ntmps22
    go_wp2_with (go_at_call 21; refine (rwidth_any _ _).mono ?_; rintro e w1 ⟨rfl, rfl⟩)
    refine wp_loop_rounds 3 ?_; rw [rounds_succ]
    go_wp2_with (rw [rounds_succ])
    rw [bytes_str (t := 5) [192 + c / 64, 128 + c % 64] (by exact (blk2 w _ _).1) 2 rfl 2]
    go_wp2
    go_ret
    refine ⟨?_, by repeat (first | exact Bel.refl _ | refine Bel.set_ ?_ (by simp) _ | refine Bel.alloc ?_ _)⟩
    rw [← enc_eq c, enc2 h1 h2]
    have e0 : (192 + c / 64).toNat = 192 + c.toNat / 64 := by omega
    have e1 : (128 + c % 64).toNat = 128 + c.toNat % 64 := by omega
    simp only [e0, e1]
    rfl
  rcases Int.lt_or_le c 65536 with h3 | h3
  · have hw : wid c = 3 := by unfold wid; rw [if_neg (by omega), if_neg (by omega), if_pos h3]
    have hmk : (Instr.makeSlice 55 (.int .i64 3) (.int .i64 3)).run Try.prog w = .ok (.slice (some ⟨w.heap.size, 0, none⟩) 3 3) (w.alloc (.cells #[.int .u8 0, .int .u8 0, .int .u8 0] 5)) := by
      have h := mk_u8 3 (by omega) w
      rw [show madeCells #[Value.int .u8 0] 3 = #[.int .u8 0, .int .u8 0, .int .u8 0] by kernel_rfl] at h
      exact h
    go_enter Try.func22, Try.ntmps22
    go_wp2_with (go_at_call 21; refine (rwidth_any _ _).mono ?_; rintro e w1 ⟨rfl, rfl⟩)
    refine wp_loop_rounds 4 ?_; rw [rounds_succ]
    go_wp2_with (rw [rounds_succ])
    rw [bytes_str (t := 5) [224 + c / 64 / 64, 128 + c / 64 % 64, 128 + c % 64] (by exact (blk2 w _ _).1) 3 rfl 3]
    go_wp2
    go_ret
    refine ⟨?_, by repeat (first | exact Bel.refl _ | refine Bel.set_ ?_ (by simp) _ | refine Bel.alloc ?_ _)⟩
    rw [← enc_eq c, enc3 HC.out h2 h3]
    have e0 : (224 + c / 64 / 64).toNat = 224 + c.toNat / 4096 := by omega
    have e1 : (128 + c / 64 % 64).toNat = 128 + c.toNat / 64 % 64 := by omega
    have e2 : (128 + c % 64).toNat = 128 + c.toNat % 64 := by omega
    simp only [e0, e1, e2]
    rfl
  · have hw : wid c = 4 := by unfold wid; rw [if_neg (by omega), if_neg (by omega), if_neg (by omega)]
    have hmk : (Instr.makeSlice 55 (.int .i64 4) (.int .i64 4)).run Try.prog w = .ok (.slice (some ⟨w.heap.size, 0, none⟩) 4 4) (w.alloc (.cells #[.int .u8 0, .int .u8 0, .int .u8 0, .int .u8 0] 5)) := by
      have h := mk_u8 4 (by omega) w
      rw [show madeCells #[Value.int .u8 0] 4 = #[.int .u8 0, .int .u8 0, .int .u8 0, .int .u8 0] by kernel_rfl] at h
      exact h
    go_enter Try.func22, Try.ntmps22
    go_wp2_with (go_at_call 21; refine (rwidth_any _ _).mono ?_; rintro e w1 ⟨rfl, rfl⟩)
    refine wp_loop_rounds 5 ?_; rw [rounds_succ]
    go_wp2_with (rw [rounds_succ])
    rw [bytes_str (t := 5) [240 + c / 64 / 64 / 64, 128 + c / 64 / 64 % 64, 128 + c / 64 % 64, 128 + c % 64] (by exact (blk2 w _ _).1) 4 rfl 4]
    go_wp2
    go_ret
    refine ⟨?_, by repeat (first | exact Bel.refl _ | refine Bel.set_ ?_ (by simp) _ | refine Bel.alloc ?_ _)⟩
    rw [← enc_eq c, enc4 HC.out h3]
    have e0 : (240 + c / 64 / 64 / 64).toNat = 240 + c.toNat / 262144 := by omega
    have e1 : (128 + c / 64 / 64 % 64).toNat = 128 + c.toNat / 4096 % 64 := by omega
    have e2 : (128 + c / 64 % 64).toNat = 128 + c.toNat / 64 % 64 := by omega
    have e3 : (128 + c % 64).toNat = 128 + c.toNat % 64 := by omega
    simp only [e0, e1, e2, e3]
    rfl
end Go.Proofs.Ytaiogbokmglofaa.Mu

