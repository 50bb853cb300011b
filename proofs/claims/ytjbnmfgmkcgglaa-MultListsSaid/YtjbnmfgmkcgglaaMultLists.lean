/-
  The statement MultLists: walked, for every list of uses, nil, empty or long.
-/
import Derived.Test.YtjbnmfgmkcgglaaMultMore
import Derived.Test.YtjbnmfgmkcgglaaRef01Join
import Derived.Test.YtjbnmfgmkcgglaaRef01Sum
import Derived.Deep.RegionHeld3
import Derived.ChangeOld
namespace Go.Proofs.Ytjbnmfgmkcgglaa.Mu
open Go.ChangeShapes Go.WideShapes Go.ChangeAt Go.RowKit

/-- What has been joined, and one more use. -/
theorem join_more (zs : List Int) (u : Int) : joinF (zs ++ [u]) = joinF [joinF zs, u] ∨ zs = [] := by
  rcases zs with _ | ⟨z, zs⟩
  · exact .inr rfl
  refine .inl ?_
  have key : ∀ (l : List Int) (t : Int), t ∈ ([1, 2, 3, 7] : List Int) → l.foldl (fun t u => bits .or .u8 t (usedF u)) t ∈ ([1, 2, 3, 7] : List Int) := by
    intro l
    induction l with
    | nil => intro t ht; exact ht
    | cons x l ih =>
      intro t ht
      refine ih _ ?_
      dsimp only
      rw [usedF_cu x]
      have hx := cu_mem x
      generalize cu x = y at *
      revert t y
      decide +kernel
  have h1 : joinT (z :: zs) ∈ ([1, 2, 3, 7] : List Int) := by
    refine key zs _ ?_
    dsimp only
    rw [usedF_cu z]
    have hx := cu_mem z
    generalize cu z = y at *
    revert y
    decide +kernel
  unfold joinF
  rw [joinT_snoc]
  simp only [joinT, List.foldl] at h1 ⊢
  rw [usedF_cu u]
  generalize List.foldl _ _ zs = t at *
  have hu := cu_mem u
  generalize cu u = y at *
  revert t y
  decide +kernel
theorem sum_more (zs : List Int) (u : Int) : sumF (zs ++ [u]) = sumF [sumF zs, u] := by
  have key : ∀ (l : List Int) (t : Int), t ∈ ([1, 2, 3, 4, 6, 7] : List Int) → l.foldl (fun t u => addF t (usedF u)) t ∈ ([1, 2, 3, 4, 6, 7] : List Int) := by
    intro l
    induction l with
    | nil => intro t ht; exact ht
    | cons x l ih =>
      intro t ht
      refine ih _ ?_
      dsimp only
      rw [usedF_cu x]
      have hx := cu_mem x
      generalize cu x = y at *
      revert t y
      decide +kernel
  have h1 : sumT zs ∈ ([1, 2, 3, 4, 6, 7] : List Int) := key zs _ (by decide)
  unfold sumF
  rw [sumT_snoc]
  generalize sumT zs = t at *
  simp only [sumT, List.foldl]
  rw [usedF_cu u]
  have hu := cu_mem u
  generalize cu u = y at *
  revert t y
  decide +kernel

theorem join_start (u : Int) : joinF [u, u] = joinF [u] := by
  simp only [joinF, joinT, List.foldl]
  rw [usedF_cu u]
  have hu := cu_mem u
  generalize cu u = y at *
  revert y
  decide +kernel
theorem sum_start (u : Int) : sumF [u, 0] = sumF [u] := by
  simp only [sumF, sumT, List.foldl]
  rw [usedF_cu u]
  have hu := cu_mem u
  generalize cu u = y at *
  revert y
  decide +kernel

/-- A world in which the list still stands, and nothing that was there has turned. -/
def Stands (w wr : World) : Prop := Below w.heap.size w wr

set_option maxRecDepth 100000 in
set_option maxHeartbeats 1000000 in
theorem lists_any (us : List Int) (b off len cap : Nat) (h1 : 1 ≤ len) (h2 : len ≤ 1000) (h3 : len ≤ cap) (h4 : cap ≤ 9223372036854775807) (hl : len = us.length) (w : World) (hb : b < w.heap.size)
    (hc : ∀ k, k < len → w.cell? ⟨b, off + k, none⟩ = some (.int .u8 (us[k]?.getD 0))) :
    Calls Try.prog 3 #[.slice (some ⟨b, off, none⟩) len cap] w fun e w' => e = .returned (.bool true) ∧ Below w.heap.size w w' := by
  have HL := Lib.hid hl
  clear hl
  have HC := Lib.hid hc
  clear hc
  have hn0 : ((len : Int) == 0) = false := by rw [beq_eq_false_iff_ne]; omega
  have hcell0 : w.cell? ⟨b, off, none⟩ = some (.int .u8 (us[0]?.getD 0)) := HC.out 0 (by omega)
  have hi0 : (0 : Int) < len := by omega
  have hi1 : 0 < len := by omega
  go_enter Try.func3, Try.ntmps3
  go_wp2_with fail
  go_region_held3 (fun w' => w'.cell? ⟨b, off, none⟩ = some (.int .u8 (us[0]?.getD 0))) (first | go_keep | (rw [hf.2.cell (by simp; omega)]; go_keep))
    (first | (go_at_call 10; refine (sum_ref _ _ _).mono ?_; rintro e w1 ⟨rfl, hf⟩))
  go_wp2_with (first | (go_at_call 11; refine (join_ref _ _ _).mono ?_; rintro e w2 ⟨rfl, hf2⟩))
  all_goals
    go_loopw [3, 4, 36] (fun j s i wr => ∃ (k : Nat) (J S : Int), k ≤ len - 1 ∧ i = .int .i64 k ∧ j = .int .u8 J ∧ s = .int .u8 S ∧ Hid (J = joinF (us.take (k + 1))) ∧ Hid (S = sumF (us.take (k + 1))) ∧ Below w.heap.size w wr) (fun _ _ i _ => len - 1 - (intOf i).toNat)
    case atStart =>
      refine ⟨0, _, _, Nat.zero_le _, rfl, rfl, rfl, ?_, ?_, ?_⟩
      · have := take_snoc (zs := us) (k := 0) (by rw [← HL.out]; omega)
        simp only [Nat.zero_add] at this ⊢
        rw [this]; exact Lib.hid (join_start _)
      · have := take_snoc (zs := us) (k := 0) (by rw [← HL.out]; omega)
        simp only [Nat.zero_add] at this ⊢
        rw [this]; exact Lib.hid (sum_start _)
      · exact (((Below.refl _ _).drew).trans (hf.2.mono (by simp))).trans (hf2.2.mono (by have := hf.2.size; simp at this; omega))
    case round =>
      obtain ⟨k, J, S, hk, rfl, rfl, rfl, HJ, HS, hB⟩ := hrel
      have hBs := hB.size
      by_cases hlt : k < len - 1
      · have hcell : wr.cell? ⟨b, off + 1 + k, none⟩ = some (.int .u8 (us[k + 1]?.getD 0)) := by
          rw [hB.cell (by exact hb), ← HC.out (k + 1) (by omega)]
          congr 2; omega
        have hint : (k : Int) < (len : Int) - 1 := by omega
        have e := take_snoc (zs := us) (k := k + 1) (by rw [← HL.out]; omega)
        have E := Lib.hid e
        clear e
        go_wp2_with (first | (go_at_call 11; refine (join_ref _ _ _).mono ?_; rintro e w3 ⟨rfl, hf3⟩) | (go_at_call 10; refine (sum_ref _ _ _).mono ?_; rintro e w4 ⟨rfl, hf4⟩))
        all_goals
          go_roundw
          case rel => exact ⟨k + 1, _, _, by omega, by go_num, rfl, rfl, by rw [E.out, HJ.out]; exact Lib.hid ((join_more _ _).resolve_right (by intro h; have h5 := congrArg List.length h; have h6 := HL.out; simp at h5; subst h5; simp at h6; omega)).symm, by rw [E.out, HS.out]; exact Lib.hid (sum_more _ _).symm, (hB.trans (hf3.2.mono (by omega))).trans (hf4.2.mono (by have := hf3.2.size; omega))⟩
          case measure => simp [intOf]; omega
      · obtain rfl : k = len - 1 := by omega
        have hint : ¬ ((len - 1 : Nat) : Int) < (len : Int) - 1 := by omega
        have e : us.take (len - 1 + 1) = us := by rw [show len - 1 + 1 = len by omega, HL.out]; exact List.take_length
        obtain rfl : J = joinF us := by rw [HJ.out, e]
        obtain rfl : S = sumF us := by rw [HS.out, e]
        clear e
        have HC2 := Lib.hid (fun k hk => (hB.cell (p := ⟨b, off + k, none⟩) hb).trans (HC.out k hk))
        go_wp2_with (first | (go_at_call 8; refine (join_any us _ _ _ _ HL.out (by omega) _ HC2.out).mono ?_; rintro e w' ⟨rfl, rfl⟩) | (go_at_call 9; refine (sum_any us _ _ _ _ HL.out (by omega) _ HC2.out).mono ?_; rintro e w' ⟨rfl, rfl⟩) | (go_at_call 7; refine (works_fresh _).mono ?_; rintro e w5 ⟨rfl, hg⟩))
        go_ret
        exact ⟨rfl, hB.trans (hg.2.mono (by omega))⟩

set_option maxRecDepth 100000 in
/-- The empty list, and those of more than 1000. -/
theorem lists_rest (A : Option Addr) (len cap : Nat) (h : len = 0 ∨ 1000 < len) (h4 : len ≤ 9223372036854775807) (w : World) :
    Calls Try.prog 3 #[.slice A len cap] w fun e w' => e = .returned (.bool true) ∧ Below w.heap.size w w' := by
  have j0 : (joinF [] == 0) = true := by decide +kernel
  have s0 : (sumF [] == 0) = true := by decide +kernel
  rcases h with rfl | h
  · go_enter Try.func3, Try.ntmps3
    go_wp2_with (first | (go_at_call 8; refine (join_none _).mono ?_; rintro e w' ⟨rfl, rfl⟩) | (go_at_call 9; refine (sum_none _).mono ?_; rintro e w' ⟨rfl, rfl⟩) | (go_at_call 7; refine (works_fresh _).mono ?_; rintro e w5 ⟨rfl, hg⟩))
    go_ret
    exact ⟨rfl, hg.2⟩
  · have hi : (1000 : Int) < len := by omega
    go_enter Try.func3, Try.ntmps3
    go_wp2_with (first | (go_at_call 7; refine (works_fresh _).mono ?_; rintro e w5 ⟨rfl, hg⟩))
    go_ret
    exact ⟨rfl, hg.2⟩
end Go.Proofs.Ytjbnmfgmkcgglaa.Mu
