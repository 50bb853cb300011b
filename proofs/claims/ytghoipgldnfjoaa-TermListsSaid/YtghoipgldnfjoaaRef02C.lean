/-
  The document's own answer for layer 2 on whether two terms are the same, walked.
-/
import Derived.Test.YtghoipgldnfjoaaTermE
namespace Go.Proofs.Ytghoipgldnfjoaa.Mu
open Go.ChangeShapes Go.WideShapes Go.ChangeAt Go.RowKit

def rsameB (n1 n2 : Bool) (c1 c2 : Int) (l1 l2 : List Int) : Bool := decide (n1 = n2) && decide (c1 = c2) && decide (l1 = l2)
theorem same_upto {l1 l2 : List Int} (h : l1.length = l2.length) (h2 : ∀ i, i < l1.length → l1[i]?.getD 0 = l2[i]?.getD 0) : l1 = l2 := by
  apply List.ext_getElem h
  intro i h3 h4
  have := h2 i h3
  rwa [List.getElem?_eq_getElem h3, List.getElem?_eq_getElem h4] at this

set_option maxRecDepth 100000 in
set_option maxHeartbeats 4000000 in
theorem rsame_any (n1 n2 : Bool) (c1 c2 : Int) (A1 A2 : Option Addr) (m1 m2 k1 k2 : Nat) (l1 l2 : List Int) (w : World) (h1 : RI .i64 w w.heap.size A1 m1 l1) (h2 : RI .i64 w w.heap.size A2 m2 l2) (hx1 : m1 ≤ 1000000000) (hx2 : m2 ≤ 1000000000) :
    Calls Try.prog 25 #[.agg #[.bool n1, .int .u8 c1, .slice A1 m1 k1], .agg #[.bool n2, .int .u8 c2, .slice A2 m2 k2]] w fun e w' => e = .returned (.bool (rsameB n1 n2 c1 c2 l1 l2)) ∧ Bel w w' := by
  have H1 := Lib.hid h1
  have H2 := Lib.hid h2
  have L1 := Lib.hid h1.len
  have L2 := Lib.hid h2.len
  clear h1 h2
  by_cases hd : n1 = n2 ∧ c1 = c2 ∧ m1 = m2
  · obtain ⟨rfl, rfl, rfl⟩ := hd
    cases n1
    all_goals
      go_enter Try.func25, Try.ntmps25
      go_wp2
      go_loopw [5] (fun i wr => ∃ (k : Nat), k ≤ m1 ∧ i = .int .i64 k ∧ Hid (∀ i, i < k → l1[i]?.getD 0 = l2[i]?.getD 0) ∧ Bel w wr ∧ wr.cell? ⟨w.heap.size, 2, none⟩ = some (.slice A1 m1 k1) ∧ wr.cell? ⟨w.heap.size + 1, 2, none⟩ = some (.slice A2 m1 k2)) (fun i _ => m1 - (intOf i).toNat)
      case atStart => exact ⟨0, Nat.zero_le _, rfl, Lib.hid (fun i hi => absurd hi (by omega)), ((Bel.refl _).alloc _).alloc _, by simp, by simp⟩
      case round =>
        obtain ⟨k, hk, rfl, HE, hB, hca, hcb⟩ := hrel
        by_cases hlt : k < m1
        · obtain ⟨b1, o1, rfl, _, hc1⟩ := (H1.out.bel hB).at_ (by omega)
          obtain ⟨b2, o2, rfl, _, hc2⟩ := (H2.out.bel hB).at_ (by omega)
          have hcell1 := hc1 k hlt
          have hcell2 := hc2 k hlt
          obtain ⟨x, hx⟩ : ∃ x, l1[k]?.getD 0 = x := ⟨_, rfl⟩
          obtain ⟨y, hy⟩ : ∃ y, l2[k]?.getD 0 = y := ⟨_, rfl⟩
          rw [hx] at hcell1
          rw [hy] at hcell2
          have HX := Lib.hid hx
          have HY := Lib.hid hy
          clear hc1 hc2 hx hy
          have i0 : (0 : Int) ≤ (k : Int) := by omega
          have i1 : (k : Int) < (m1 : Int) := by omega
          rcases Bool.eq_false_or_eq_true (x != y) with hne | hne
          all_goals
            go_wp2
            go_quiet (fail)
            go_wp2
          · go_ret
            exact ⟨ret_bool (by
              have : l1 ≠ l2 := fun e => by subst e; rw [← HX.out, ← HY.out] at hne; simp at hne
              simp [rsameB, this]), hB.drewN _⟩
          · go_roundw
            case rel => exact ⟨k + 1, by omega, by go_num, Lib.hid (fun i hi => by
              by_cases h : i < k
              · exact HE.out i h
              · obtain rfl : i = k := by omega
                rw [HX.out, HY.out]
                simpa using hne), hB.drewN _, hca, hcb⟩
            case measure => simp [intOf]; omega
        · obtain rfl : k = m1 := by omega
          go_wp2
          go_ret
          exact ⟨ret_bool (by
            have : l1 = l2 := same_upto (by rw [← L1.out, L2.out]) (fun i hi => HE.out i (by rw [L1.out]; exact hi))
            simp [rsameB, this]), hB⟩
  · have hno : Hid (rsameB n1 n2 c1 c2 l1 l2 = false) := Lib.hid (by
      unfold rsameB
      rw [Bool.eq_false_iff]
      intro h
      simp only [Bool.and_eq_true, decide_eq_true_eq] at h
      exact hd ⟨h.1.1, h.1.2, by rw [L1.out, L2.out, h.2]⟩)
    have hd2 : n1 ≠ n2 ∨ (n1 = n2 ∧ (c1 != c2) = true) ∨ (n1 = n2 ∧ c1 = c2 ∧ decide (m1 = m2) = false) := by
      by_cases e1 : n1 = n2 <;> by_cases e2 : c1 = c2 <;> by_cases e3 : m1 = m2 <;> simp_all
    clear hd
    rcases hd2 with hd | ⟨rfl, hd⟩ | ⟨rfl, rfl, hd⟩
    · cases n1 <;> cases n2 <;> simp at hd
      all_goals
        go_enter Try.func25, Try.ntmps25
        go_wp2
        go_ret
        exact ⟨ret_bool hno.out.symm, ((Bel.refl _).alloc _).alloc _⟩
    · cases n1
      all_goals
        go_enter Try.func25, Try.ntmps25
        go_wp2
        go_ret
        exact ⟨ret_bool hno.out.symm, ((Bel.refl _).alloc _).alloc _⟩
    · have hdm : ((m1 : Int) != (m2 : Int)) = true := by
        have : m1 ≠ m2 := by simpa using hd
        simp; omega
      cases n1
      all_goals
        go_enter Try.func25, Try.ntmps25
        go_wp2
        go_ret
        exact ⟨ret_bool hno.out.symm, ((Bel.refl _).alloc _).alloc _⟩
end Go.Proofs.Ytghoipgldnfjoaa.Mu
