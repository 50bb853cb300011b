/-
  Layer 1's two functions over a list (Join, Sum), walked once over any list, and at two uses (for seats of later layers).
-/
import Derived.Test.YtfegoilgbjhhpaaMult
namespace Go.Proofs.Ytfegoilgbjhhpaa.Mu
open Go.ChangeShapes Go.WideShapes Go.ChangeAt Go.RowKit

theorem take_snoc {zs : List Int} {k : Nat} (h : k < zs.length) : zs.take (k + 1) = zs.take k ++ [zs[k]?.getD 0] := by
  rw [List.take_add_one, List.getElem?_eq_getElem h]; rfl
theorem joinT_snoc (l : List Int) (u : Int) : joinT (l ++ [u]) = bits .or .u8 (joinT l) (usedF u) := by simp [joinT]
theorem sumT_snoc (l : List Int) (u : Int) : sumT (l ++ [u]) = addF (sumT l) (usedF u) := by simp [sumT]

theorem join_any (zs : List Int) (b off len cap : Nat) (hl : len = zs.length) (hmax : len ≤ 9223372036854775807) (w : World) (hc : ∀ k, k < len → w.cell? ⟨b, off + k, none⟩ = some (.int .u8 (zs[k]?.getD 0))) :
    Calls Try.prog 20 #[.slice (some ⟨b, off, none⟩) len cap] w fun e w' => e = .returned (.int .u8 (joinF zs)) ∧ w = w' := by
  have HL := Lib.hid hl
  clear hl
  have HC := Lib.hid hc
  clear hc
  go_enter Try.func20, Try.ntmps20
  go_wp2
  go_loop [3, 8] (fun t i => ∃ k : Nat, k ≤ len ∧ i = .int .i64 k ∧ t = .int .u8 (joinT (zs.take k))) (fun _ i => len - (intOf i).toNat)
  case atStart => exact ⟨0, Nat.zero_le _, rfl, rfl⟩
  case round =>
    obtain ⟨k, hk, rfl, rfl⟩ := hrel
    by_cases hlt : k < len
    · have hcell := HC.out k hlt
      have e := take_snoc (by rw [← HL.out]; exact hlt)
      have E := Lib.hid e
      clear e
      go_wp2_with (go_at_call 37; refine (used_any _ _).mono ?_; rintro e w' ⟨rfl, rfl⟩)
      go_round
      case rel => exact ⟨k + 1, by omega, by go_num, by rw [E.out, joinT_snoc]⟩
      case measure => simp [intOf]; omega
    · obtain rfl : k = len := by omega
      have e : zs.take k = zs := by rw [HL.out]; exact List.take_length
      have E := Lib.hid e
      clear e
      go_wp2_with (go_at_call 38; refine (leastUse_any _ _).mono ?_; rintro e w' ⟨rfl, rfl⟩)
      go_ret
      exact ⟨ret_int (by rw [E.out]; rfl), rfl⟩

theorem sum_any (zs : List Int) (b off len cap : Nat) (hl : len = zs.length) (hmax : len ≤ 9223372036854775807) (w : World) (hc : ∀ k, k < len → w.cell? ⟨b, off + k, none⟩ = some (.int .u8 (zs[k]?.getD 0))) :
    Calls Try.prog 21 #[.slice (some ⟨b, off, none⟩) len cap] w fun e w' => e = .returned (.int .u8 (sumF zs)) ∧ w = w' := by
  have HL := Lib.hid hl
  clear hl
  have HC := Lib.hid hc
  clear hc
  go_enter Try.func21, Try.ntmps21
  go_wp2
  go_loop [3, 8] (fun t i => ∃ k : Nat, k ≤ len ∧ i = .int .i64 k ∧ t = .int .u8 (sumT (zs.take k))) (fun _ i => len - (intOf i).toNat)
  case atStart => exact ⟨0, Nat.zero_le _, rfl, rfl⟩
  case round =>
    obtain ⟨k, hk, rfl, rfl⟩ := hrel
    by_cases hlt : k < len
    · have hcell := HC.out k hlt
      have e := take_snoc (by rw [← HL.out]; exact hlt)
      have E := Lib.hid e
      clear e
      go_wp2_with (first | (go_at_call 37; refine (used_any _ _).mono ?_; rintro e w' ⟨rfl, rfl⟩) | (go_at_call 39; refine (add_any _ _ _).mono ?_; rintro e w' ⟨rfl, rfl⟩))
      go_round
      case rel => exact ⟨k + 1, by omega, by go_num, by rw [E.out, sumT_snoc]⟩
      case measure => simp [intOf]; omega
    · obtain rfl : k = len := by omega
      have e : zs.take k = zs := by rw [HL.out]; exact List.take_length
      have E := Lib.hid e
      clear e
      go_wp2_with (go_at_call 38; refine (leastUse_any _ _).mono ?_; rintro e w' ⟨rfl, rfl⟩)
      go_ret
      exact ⟨ret_int (by rw [E.out]; rfl), rfl⟩

theorem join_two (a c : Int) (b cap : Nat) (w : World) (hb : b = w.heap.size) :
    Calls Try.prog 20 #[.slice (some ⟨b, 0, none⟩) 2 cap] (w.alloc (.cells #[.int .u8 a, .int .u8 c] 37)) fun e w' => e = .returned (.int .u8 (joinF [a, c])) ∧ w.alloc (.cells #[.int .u8 a, .int .u8 c] 37) = w' := by
  subst hb
  exact join_any [a, c] _ 0 2 cap rfl (by omega) _ (fun k hk => by
    match k, hk with
    | 0, _ => simp
    | 1, _ => simp)
theorem sum_two (a c : Int) (b cap : Nat) (w : World) (hb : b = w.heap.size) :
    Calls Try.prog 21 #[.slice (some ⟨b, 0, none⟩) 2 cap] (w.alloc (.cells #[.int .u8 a, .int .u8 c] 37)) fun e w' => e = .returned (.int .u8 (sumF [a, c])) ∧ w.alloc (.cells #[.int .u8 a, .int .u8 c] 37) = w' := by
  subst hb
  exact sum_any [a, c] _ 0 2 cap rfl (by omega) _ (fun k hk => by
    match k, hk with
    | 0, _ => simp
    | 1, _ => simp)

end Go.Proofs.Ytfegoilgbjhhpaa.Mu
