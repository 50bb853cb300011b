/-
  Layer 2's own functions (package term) that only look: each walked once.
-/
import Derived.Test.YtghoipgldnfjoaaMult
import Derived.Test.YtghoipgldnfjoaaMem
import Derived.Test.YtghoipgldnfjoaaTermFn
import Derived.BigQuiet
import Derived.Deep.QuietTactic
import Derived.BigGuardPart
namespace Go.Proofs.Ytghoipgldnfjoaa.Mu
open Go.ChangeShapes Go.WideShapes Go.ChangeAt Go.RowKit

theorem isVar_any (v : Int) (w : World) : Calls Try.prog 65 #[.int .i64 v] w fun e w' => e = .returned (.bool (isVarB v)) ∧ w = w' := by
  by_cases h0 : 0 ≤ v <;> by_cases h1 : v < 1048576
  all_goals
    have e : isVarB v = (decide (0 ≤ v) && decide (v < 1048576)) := rfl
    simp only [h0, h1, decide_true, decide_false, Bool.and_self, Bool.and_false, Bool.false_and] at e
    have E := Lib.hid e
    clear e
    go_enter Try.func65, Try.ntmps65
    go_wp2
    go_ret
    exact ⟨ret_bool E.out.symm, rfl⟩
theorem isMult_any (c : Int) (w : World) : Calls Try.prog 62 #[.int .u8 c] w fun e w' => e = .returned (.bool (isMultB c)) ∧ w = w' := by
  by_cases h0 : 1 ≤ c <;> by_cases h1 : c ≤ 3
  all_goals
    have e : isMultB c = (decide (1 ≤ c) && decide (c ≤ 3)) := rfl
    simp only [h0, h1, decide_true, decide_false, Bool.and_self, Bool.and_false, Bool.false_and] at e
    have E := Lib.hid e
    clear e
    go_enter Try.func62, Try.ntmps62
    go_wp2
    go_ret
    exact ⟨ret_bool E.out.symm, rfl⟩

theorem mayVars_any (A : Option Addr) (n cap B : Nat) (l : List Int) (w : World) (hr : RI .i64 w B A n l) (hmax : n ≤ 9223372036854775807) :
    Calls Try.prog 67 #[.slice A n cap] w fun e w' => e = .returned (.int .i64 (errF (mayVarsB l))) ∧ w = w' := by
  have HR := Lib.hid hr
  have HL := Lib.hid hr.len
  clear hr
  go_enter Try.func67, Try.ntmps67
  go_wp2
  go_loop [7] (fun i => ∃ k : Nat, k ≤ n ∧ i = .int .i64 k ∧ (List.range k).all (mayAt l) = true) (fun i => n - (intOf i).toNat)
  case atStart => exact ⟨0, Nat.zero_le _, rfl, rfl⟩
  case round =>
    obtain ⟨k, hk, rfl, hall⟩ := hrel
    have HA := Lib.hid hall
    clear hall
    by_cases hlt : k < n
    · obtain ⟨b, off, rfl, hb, hc⟩ := HR.out.at_ (by omega)
      have hcell := hc k hlt
      have hprev : 0 < k → w.cell? ⟨b, off + (k - 1), none⟩ = some (.int .i64 (l[k - 1]?.getD 0)) := fun _ => hc (k - 1) (by omega)
      have HC := Lib.hid hc
      clear hc
      rcases Bool.eq_false_or_eq_true (isVarB (l[k]?.getD 0)) with hv | hv <;> by_cases h0 : 0 < k
      all_goals
        go_wp2_with (go_at_call 65; refine (isVar_any _ _).mono ?_; rintro e w' ⟨rfl, rfl⟩)
      all_goals first
        | (go_ret
           exact ⟨ret_int (errF_no (mayVarsB_no (k := k) (by rw [← HL.out]; exact hlt) (by first | exact mayAt_no1 hv | exact mayAt_no2 h0 (by assumption)))), rfl⟩)
        | (go_round
           case rel => exact ⟨k + 1, by omega, by go_num, by rw [range_all_succ, HA.out, mayAt_yes hv (fun h => by first | assumption | exact absurd h h0)]; rfl⟩
           case measure => simp [intOf]; omega)
    · obtain rfl : k = n := by omega
      go_wp2
      go_ret
      exact ⟨ret_int (errF_yes (mayVarsB_yes (by rw [← HL.out]; exact HA.out))), rfl⟩

theorem may_any (nv : Bool) (c : Int) (A : Option Addr) (n cap : Nat) (l : List Int) (w : World) (hr : RI .i64 w w.heap.size A n l) (hmax : n ≤ 9223372036854775807) :
    Calls Try.prog 34 #[.agg #[.bool nv, .int .u8 c, .slice A n cap]] w fun e w' => e = .returned (.int .i64 (errF (mayB nv c l))) ∧ Bel w w' := by
  have HR := Lib.hid hr
  have HL := Lib.hid hr.len
  clear hr
  rcases Bool.eq_false_or_eq_true (isMultB c) with hm | hm <;> cases nv
  all_goals
    go_enter Try.func34, Try.ntmps34
    go_wp2_with (first | (go_at_call 62; refine (isMult_any _ _).mono ?_; rintro e w' ⟨rfl, rfl⟩) | (go_at_call 67; refine (mayVars_any _ _ _ _ _ _ (HR.out.alloc _) hmax).mono ?_; rintro e w' ⟨rfl, rfl⟩))
  all_goals
    go_ret
    refine ⟨ret_int ?_, (Bel.refl _).alloc _⟩
    have e := HL.out
    simp only [mayB, ← e]
    clear HL HR
    simp_all [errF]

theorem is_any (v c : Int) (w : World) : Calls Try.prog 31 #[.agg #[.int .i64 v, .int .u8 c]] w fun e w' => e = .returned (.int .i64 (errF (isB v c))) ∧ Bel w w' := by
  rcases Bool.eq_false_or_eq_true (isMultB c) with hm | hm <;> rcases Bool.eq_false_or_eq_true (isVarB v) with hv | hv
  all_goals
    go_enter Try.func31, Try.ntmps31
    go_wp2_with (first | (go_at_call 62; refine (isMult_any _ _).mono ?_; rintro e w' ⟨rfl, rfl⟩) | (go_at_call 65; refine (isVar_any _ _).mono ?_; rintro e w' ⟨rfl, rfl⟩))
  all_goals
    go_ret
    refine ⟨ret_int ?_, (Bel.refl _).alloc _⟩
    simp_all [errF, isB]

theorem some_any (c : Int) (A : Option Addr) (n cap : Nat) (w : World) : Calls Try.prog 30 #[.int .u8 c, .slice A n cap] w fun e w' => e = .returned (.agg #[.bool false, .int .u8 c, .slice A n cap]) ∧ Bel w w' := by
  go_enter Try.func30, Try.ntmps30
  go_wp2
  exact bodyPost_ret (v := .agg #[.bool false, .int .u8 c, .slice A n cap]) (by simp [results, Try.results30, go_sem]) rfl ⟨rfl, (Bel.refl _).alloc _⟩

set_option maxRecDepth 100000 in
theorem great_any (A : Option Addr) (n cap : Nat) (rs : List Raw) (w : World) (hr : RT w w.heap.size A n rs) (hmax : n ≤ 1000000) :
    Calls Try.prog 18 #[.slice A n cap] w fun e w' => e = .returned (.bool (greatB rs)) ∧ Bel w w' := by
  have HR := Lib.hid hr
  have HL := Lib.hid hr.len
  clear hr
  go_enter Try.func18, Try.ntmps18
  go_wp2
  go_loopw [3, 8] (fun s i wr => ∃ k : Nat, k ≤ n ∧ i = .int .i64 k ∧ s = .int .i64 (greatN (rs.take k)) ∧ Bel w wr) (fun _ i _ => n - (intOf i).toNat)
  case atStart => exact ⟨0, Nat.zero_le _, rfl, rfl, Bel.refl _⟩
  case round =>
    obtain ⟨k, hk, rfl, rfl, hB⟩ := hrel
    have hbd := greatN_bd (rs.take k)
    have hle : (rs.take k).length ≤ k := List.length_take_le _ _
    by_cases hlt : k < n
    · obtain ⟨b, off, rfl, hb, hc⟩ := (HR.out.bel hB).at_ (by omega)
      obtain ⟨r, hrk⟩ : ∃ r, rs[k]? = some r := ⟨_, List.getElem?_eq_getElem (by rw [← HL.out]; exact hlt)⟩
      obtain ⟨c0, c1, c2⟩ := hc k r hrk
      have HC := Lib.hid hc
      have HK := Lib.hid hrk
      clear hc hrk
      go_wp2
      have e := take_snoc_ HK.out
      all_goals
        go_roundw
        case rel => exact ⟨k + 1, by omega, by go_num, by rw [e, greatN_snoc], hB.alloc _⟩
        case measure => simp [intOf]; omega
    · obtain rfl : k = n := by omega
      have e : rs.take k = rs := by rw [HL.out]; exact List.take_length
      have E := Lib.hid e
      clear e
      go_wp2
      all_goals
        go_ret
        exact ⟨ret_bool (by rw [E.out]; rfl), hB⟩

theorem of_any (u : Int) (w : World) : Calls Try.prog 28 #[.int .u8 u] w fun e w' => e = .returned (.agg #[.bool (decide (u = 0)), .int .u8 (if u = 0 then 0 else leastMF u), .slice none 0 0]) ∧ Bel w w' := by
  by_cases h0 : u = 0
  · subst h0
    go_enter Try.func28, Try.ntmps28
    go_wp2
    exact bodyPost_ret (v := .agg #[.bool true, .int .u8 0, .slice none 0 0]) (by simp [results, Try.results28, go_sem]) rfl ⟨rfl, (Bel.refl _).alloc _⟩
  · have e0 : (u == 0) = false := by simpa using h0
    have E := Lib.hid h0
    clear h0
    go_enter Try.func28, Try.ntmps28
    go_wp2_with (go_at_call 64; refine (least_any _ _).mono ?_; rintro e w' ⟨rfl, rfl⟩)
    exact bodyPost_ret (v := .agg #[.bool false, .int .u8 (leastMF u), .slice none 0 0]) (by simp [results, Try.results28, go_sem]) rfl ⟨rfl, (Bel.refl _).alloc _⟩
end Go.Proofs.Ytghoipgldnfjoaa.Mu
