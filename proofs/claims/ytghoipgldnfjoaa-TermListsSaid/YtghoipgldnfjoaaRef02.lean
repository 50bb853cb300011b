/-
  The document's own answers for layer 2 (package usufructref02), walked: those that only look.
-/
import Derived.Test.YtghoipgldnfjoaaTermA
namespace Go.Proofs.Ytghoipgldnfjoaa.Mu
open Go.ChangeShapes Go.WideShapes Go.ChangeAt Go.RowKit

theorem has_yes {l : List Int} {k : Nat} {v : Int} (hk : k < l.length) (h : (l[k]?.getD 0 == v) = true) : true = decide (v ∈ l) := by
  rw [List.getElem?_eq_getElem hk] at h
  have : l[k] = v := by simpa using h
  subst this
  simp
theorem has_no {l : List Int} {k : Nat} {v : Int} (hn : v ∉ l.take k) (h : (l[k]?.getD 0 == v) = false) : v ∉ l.take (k + 1) := by
  rw [List.take_add_one]
  simp only [List.mem_append, not_or]
  refine ⟨hn, ?_⟩
  rcases hl : l[k]? with _ | x
  · simp
  · rw [hl] at h
    have : x ≠ v := by simpa using h
    simp; exact fun e => this e.symm

theorem mayAt_case {l : List Int} {k : Nat} (h0 : 0 < k) :
    (decide (0 ≤ l[k]?.getD 0) = false ∧ mayAt l k = false) ∨ (decide (0 ≤ l[k]?.getD 0) = true ∧ decide (l[k]?.getD 0 < 1048576) = false ∧ mayAt l k = false) ∨
    (decide (0 ≤ l[k]?.getD 0) = true ∧ decide (l[k]?.getD 0 < 1048576) = true ∧ decide (l[k - 1]?.getD 0 < l[k]?.getD 0) = false ∧ mayAt l k = false) ∨
    (decide (0 ≤ l[k]?.getD 0) = true ∧ decide (l[k]?.getD 0 < 1048576) = true ∧ decide (l[k - 1]?.getD 0 < l[k]?.getD 0) = true ∧ mayAt l k = true) := by
  unfold mayAt isVarB
  rw [decide_eq_false (show ¬ k = 0 by omega), Bool.false_or]
  generalize decide (0 ≤ l[k]?.getD 0) = a
  generalize decide (l[k]?.getD 0 < 1048576) = b
  generalize decide (l[k - 1]?.getD 0 < l[k]?.getD 0) = c
  revert a b c; decide
theorem mayAt_zero (l : List Int) :
    (decide ((0 : Int) ≤ l[0]?.getD 0) = false ∧ mayAt l 0 = false) ∨ (decide ((0 : Int) ≤ l[0]?.getD 0) = true ∧ decide (l[0]?.getD 0 < (1048576 : Int)) = false ∧ mayAt l 0 = false) ∨
    (decide ((0 : Int) ≤ l[0]?.getD 0) = true ∧ decide (l[0]?.getD 0 < (1048576 : Int)) = true ∧ mayAt l 0 = true) := by
  unfold mayAt isVarB
  rw [decide_eq_true (show (0 : Nat) = 0 from rfl), Bool.true_or, Bool.and_true]
  generalize decide ((0 : Int) ≤ l[0]?.getD 0) = a
  generalize decide (l[0]?.getD 0 < (1048576 : Int)) = b
  revert a b; decide
theorem mayAt_parts {l : List Int} {k : Nat} (h : mayAt l k = true) : 0 ≤ l[k]?.getD 0 ∧ l[k]?.getD 0 < 1048576 ∧ (0 < k → l[k - 1]?.getD 0 < l[k]?.getD 0) := by
  simp only [mayAt, isVarB, Bool.and_eq_true, Bool.or_eq_true, decide_eq_true_eq] at h
  exact ⟨h.1.1, h.1.2, fun h0 => h.2.resolve_left (by omega)⟩

theorem rhas_any (A : Option Addr) (n cap B : Nat) (l : List Int) (v : Int) (w : World) (hr : RI .i64 w B A n l) (hmax : n ≤ 9223372036854775807) :
    Calls Try.prog 100 #[.slice A n cap, .int .i64 v] w fun e w' => e = .returned (.bool (decide (v ∈ l))) ∧ w = w' := by
  have HR := Lib.hid hr
  have HL := Lib.hid hr.len
  clear hr
  go_enter Try.func100, Try.ntmps100
  go_wp2
  go_loop [5] (fun i => ∃ k : Nat, k ≤ n ∧ i = .int .i64 k ∧ Hid (v ∉ l.take k)) (fun i => n - (intOf i).toNat)
  case atStart => exact ⟨0, Nat.zero_le _, rfl, Lib.hid (by simp)⟩
  case round =>
    obtain ⟨k, hk, rfl, HN⟩ := hrel
    by_cases hlt : k < n
    · obtain ⟨b, off, rfl, hb, hc⟩ := HR.out.at_ (by omega)
      have hcell := hc k hlt
      have HC := Lib.hid hc
      clear hc
      go_wp2
      all_goals first
        | (go_ret
           exact ⟨ret_bool (has_yes (by rw [← HL.out]; exact hlt) (by assumption)), rfl⟩)
        | (go_round
           case rel => exact ⟨k + 1, by omega, by go_num, Lib.hid (has_no HN.out (by assumption))⟩
           case measure => simp [intOf]; omega)
    · obtain rfl : k = n := by omega
      go_wp2
      go_ret
      exact ⟨ret_bool (by
        have h := HN.out
        rw [HL.out, List.take_length] at h
        simp [h]), rfl⟩

set_option maxHeartbeats 1000000 in
theorem rmay_any (nv : Bool) (c : Int) (A : Option Addr) (n cap : Nat) (l : List Int) (w : World) (hr : RI .i64 w w.heap.size A n l) (hmax : n ≤ 9223372036854775807) :
    Calls Try.prog 22 #[.agg #[.bool nv, .int .u8 c, .slice A n cap]] w fun e w' => e = .returned (.bool (mayB nv c l)) ∧ Bel w w' := by
  have HR := Lib.hid hr
  have HL := Lib.hid hr.len
  clear hr
  cases nv
  · obtain ⟨M, hM⟩ : ∃ M, M = (isMultB c && (decide (c ≠ 3) || decide (n = 0))) := ⟨_, rfl⟩
    have HM := Lib.hid hM
    clear hM
    by_cases h3 : c = 3
    case' pos => subst h3
    case' neg =>
      have e3 : (c != 3) = true := by simpa using h3
      have H3 := Lib.hid h3
      clear h3
    all_goals
      go_enter Try.func22, Try.ntmps22
      go_wp2
    all_goals
      go_loopw [3, 4] (fun b i wr => ∃ (k : Nat) (bb : Bool), k ≤ n ∧ i = .int .i64 k ∧ b = .bool bb ∧ Hid (bb = (M && (List.range k).all (mayAt l))) ∧ Bel w wr ∧ wr.cell? ⟨w.heap.size, 2, none⟩ = some (.slice A n cap)) (fun _ i _ => n - (intOf i).toNat)
      case atStart => exact ⟨0, _, Nat.zero_le _, rfl, rfl, Lib.hid (by rw [HM.out]; clear HM HR HL; simp only [isMultB, List.range_zero, List.all_nil, Bool.and_true]; first | (simp_all; done) | (simp_all; omega) | (simp_all [natz]; done)), (Bel.refl _).alloc _, by simp⟩
      case round =>
        obtain ⟨k, bb, hk, rfl, rfl, HB, hbel, hcs⟩ := hrel
        by_cases hlt : k < n
        · obtain ⟨b, off, rfl, hb, hc⟩ := (HR.out.bel hbel).at_ (by omega)
          have hcell := hc k hlt
          have hprev : 0 < k → _ := fun _ => hc (k - 1) (by omega)
          have HC := Lib.hid hc
          clear hc
          have i0 : (0 : Int) ≤ (k : Int) := by omega
          have i1 : (k : Int) < (n : Int) := by omega
          cases bb
          · go_wp2
            go_quiet (fail)
            go_wp2
            all_goals
              go_roundw
              case rel => exact ⟨k + 1, _, by omega, by go_num, rfl, Lib.hid (by rw [range_all_succ, ← Bool.and_assoc, ← HB.out]; rfl), hbel.drewN _, hcs⟩
              case measure => simp [intOf]; omega
          · by_cases h0 : 0 < k
            · have hp := hprev h0
              have i2 : (0 : Int) ≤ (k : Int) - 1 := by omega
              have i3 : (k : Int) - 1 < (n : Int) := by omega
              have i4 : ((k : Int) == 0) = false := by rw [beq_eq_false_iff_ne]; omega
              clear hprev
              rcases mayAt_case (l := l) h0 with ⟨g1, hmm⟩ | ⟨g1, g2, hmm⟩ | ⟨g1, g2, g3, hmm⟩ | ⟨g1, g2, g3, hmm⟩
              all_goals
                have HMM := Lib.hid hmm
                clear hmm
                go_wp2
                go_quiet (fail)
                go_wp2
                all_goals
                  go_roundw
                  case rel => exact ⟨k + 1, _, by omega, by go_num, rfl, Lib.hid (by rw [range_all_succ, ← Bool.and_assoc, ← HB.out, HMM.out]; rfl), hbel.drewN _, hcs⟩
                  case measure => simp [intOf]; omega
            · clear hprev
              obtain rfl : k = 0 := by omega
              have hcell0 : wr.cell? ⟨b, off, none⟩ = some (.int .i64 (l[0]?.getD 0)) := hcell
              clear hcell
              rcases mayAt_zero l with ⟨g1, hmm⟩ | ⟨g1, g2, hmm⟩ | ⟨g1, g2, hmm⟩
              all_goals
                have HMM := Lib.hid hmm
                clear hmm
                go_wp2
                go_quiet (fail)
                go_wp2
                all_goals
                  go_roundw
                  case rel => exact ⟨0 + 1, _, by omega, rfl, rfl, Lib.hid (by rw [range_all_succ, ← Bool.and_assoc, ← HB.out, HMM.out]; rfl), hbel.drewN _, hcs⟩
                  case measure => simp [intOf]; omega
        · obtain rfl : k = n := by omega
          go_wp2
          all_goals
            go_ret
            refine ⟨ret_bool ?_, hbel⟩
            rw [HB.out, HM.out]; unfold mayB mayVarsB; rw [← HL.out]; rfl
  · go_enter Try.func22, Try.ntmps22
    go_wp2
    all_goals
      go_ret
      refine ⟨ret_bool ?_, (Bel.refl _).alloc _⟩
      have e := HL.out
      clear hmax
      have e2 : l.length = 0 → mayVarsB l = true := fun h => by unfold mayVarsB; rw [h]; rfl
      simp only [mayB, ← e] at e2 ⊢
      clear HL HR e
      simp_all [natz]
end Go.Proofs.Ytghoipgldnfjoaa.Mu
