/-
  usufructref02.both, walked: two rising lists gone through side by side.
-/
import Derived.Test.YtghoipgldnfjoaaRef02
import Derived.Test.YtghoipgldnfjoaaApp
import Derived.Test.YtghoipgldnfjoaaBothMath
import Derived.Test.YtghoipgldnfjoaaTermB
namespace Go.Proofs.Ytghoipgldnfjoaa.Mu
open Go.ChangeShapes Go.WideShapes Go.ChangeAt Go.RowKit

theorem get_some {l : List Int} {k : Nat} (h : k < l.length) : l[k]? = some (l[k]?.getD 0) := by
  rw [List.getElem?_eq_getElem h]; rfl

theorem ri_oneR (w : World) (v : Int) (t : TypeId) : RI .i64 (w.alloc (.cells #[.int .i64 v] t)) (w.heap.size + 1) (some ⟨w.heap.size, 0, none⟩) 1 [v] := by
  refine ⟨rfl, fun _ => ⟨_, _, rfl, by omega, fun k hk => ?_⟩⟩
  obtain rfl : k = 0 := by omega
  simp

set_option maxHeartbeats 4000000 in
theorem rboth_any (A B : Option Addr) (n ca m cb : Nat) (la lb : List Int) (w : World) (ha : RI .i64 w w.heap.size A n la) (hb : RI .i64 w w.heap.size B m lb) (ra : la.Pairwise (· < ·)) (rb : lb.Pairwise (· < ·)) (hmax : n + m ≤ 1000000) :
    Calls Try.prog 85 #[.slice A n ca, .slice B m cb] w fun e w' => ∃ C j c, e = .returned (.slice C j c) ∧ RI .i64 w' w'.heap.size C j (srt (la ++ lb)) ∧ Bel w w' := by
  have HA := Lib.hid ha
  have HB := Lib.hid hb
  have LA := Lib.hid ha.len
  have LB := Lib.hid hb.len
  have PA := Lib.hid ra
  have PB := Lib.hid rb
  clear ha hb ra rb
  go_enter Try.func85, Try.ntmps85
  go_wp2
  go_loopw [5, 6, 7] (fun sv si sk wr => ∃ (i k mv cv : Nat) (V : Option Addr) (out : List Int), i ≤ n ∧ k ≤ m ∧ si = .int .i64 i ∧ sk = .int .i64 k ∧ sv = .slice V mv cv ∧ Hid (wr.ownsRow w.heap.size 3 1 (.slice V mv cv) mv (out.map (Value.int .i64))) ∧ Hid (InB la lb out i k) ∧ Bel w wr) (fun _ i k _ => (n - (intOf i).toNat) + (m - (intOf k).toNat))
  case atStart => exact ⟨0, 0, 0, 0, none, [], Nat.zero_le _, Nat.zero_le _, rfl, rfl, rfl, Lib.hid (World.ownsRow_nil _ _ _ _), Lib.hid (InB.start _ _), Bel.refl _⟩
  case round =>
    obtain ⟨i, k, mv, cv, V, out, hi, hk, rfl, rfl, rfl, HO, HI, hB⟩ := hrel
    have i0 : (0 : Int) ≤ (i : Int) := by omega
    have k0 : (0 : Int) ≤ (k : Int) := by omega
    have HMV : Hid (mv ≤ 1000000) := Lib.hid (by
      have h1 := HI.out.short
      have h2 : out.length = mv := by simpa using HO.out.1
      omega)
    have HHB : Hid (w.heap.size ≤ wr.heap.size) := Lib.hid hB.size
    have HBW := Lib.hid hB
    clear hB
    by_cases hik : i < n ∨ k < m
    · have hway : (i < n ∧ (m ≤ k ∨ (k < m ∧ la[i]?.getD 0 ≤ lb[k]?.getD 0))) ∨ (k < m ∧ (n ≤ i ∨ (i < n ∧ lb[k]?.getD 0 < la[i]?.getD 0))) := by omega
      rcases hway with ⟨hin, hle⟩ | ⟨hkn, hle⟩
      · obtain ⟨ba, offa, rfl, hba, hca⟩ := (HA.out.bel HBW.out).at_ (by omega)
        have hcella := hca i hin
        have i1 : (i : Int) < (n : Int) := by omega
        clear hca
        have HN : Hid (∀ y ∈ lb.drop k, la[i]?.getD 0 ≤ y) := Lib.hid (by
          rcases hle with h | ⟨h, h'⟩
          · exact none_left (by rw [← LB.out]; exact h)
          · exact next_le PB.out (get_some (by rw [← LB.out]; exact h)) h')
        have HS := Lib.hid (HI.out.step PA.out (get_some (by rw [← LA.out]; exact hin)) HN.out)
        rcases hle with hle | ⟨hkm, hle⟩
        case' inl =>
          have k1 : decide (k < m) = false := decide_eq_false (by omega)
          have k2 : (m : Int) ≤ (k : Int) := by omega
        case' inr =>
          obtain ⟨bb, offb, rfl, hbb, hcb⟩ := (HB.out.bel HBW.out).at_ (by omega)
          have hcellb := hcb k hkm
          have k1 : (k : Int) < (m : Int) := by omega
          have k2 : decide (m ≤ k) = false := decide_eq_false (by omega)
          clear hcb
        all_goals
          clear hik
          obtain ⟨v, hv⟩ : ∃ v, la[i]?.getD 0 = v := ⟨_, rfl⟩
          rw [hv] at hcella HS
          try rw [hv] at hle
          by_cases hvo : v ∈ out
          case' pos =>
            rw [if_pos hvo] at HS
            have HH : Hid (∀ W, Bel wr W → Calls Try.prog 100 #[.slice V mv cv, .int .i64 v] W fun e w' => e = .returned (.bool true) ∧ W = w') := Lib.hid fun W hb => by
              have h := rhas_any V mv cv W.heap.size out v W ((RI.of_own HO.out).bel hb) (by have := HMV.out; omega)
              rwa [decide_eq_true hvo] at h
          case' neg =>
            rw [if_neg hvo] at HS
            have HH : Hid (∀ W, Bel wr W → Calls Try.prog 100 #[.slice V mv cv, .int .i64 v] W fun e w' => e = .returned (.bool false) ∧ W = w') := Lib.hid fun W hb => by
              have h := rhas_any V mv cv W.heap.size out v W ((RI.of_own HO.out).bel hb) (by have := HMV.out; omega)
              rwa [decide_eq_false hvo] at h
          all_goals
            clear hvo hv
            go_wp2
            go_quiet (fail)
            go_wp2_with (first | (go_at_call 100; refine (HH.out _ (by first | exact (Bel.refl _).drewN _ | exact (Bel.refl _).drew | exact Bel.refl _)).mono ?_; rintro e w1 ⟨rfl, rfl⟩) | (at_builtin; refine wpList_append_ri rfl _ _ 31 rfl w.heap.size 3 Try.underlying31 info_int V mv cv out rfl (by exact World.ownsRow.alloc HO.out _) _ (some ⟨_, 0, none⟩) 1 1 [v] rfl (by exact ri_oneR _ v _) (by have := HMV.out; omega) (by have := HHB.out; simp; omega) ?_; intro V3 cv3 w3 hown3 hg3))
            first
              | (go_roundw
                 case rel => exact ⟨i + 1, k, mv + 1, cv3, V3, _, by omega, hk, by go_num, rfl, rfl, Lib.hid hown3, HS, Below.grown ((HBW.out.drewN _).alloc _) hg3 (by have := HHB.out; simp; omega) (fun g hg => (HO.out.lt g hg).1)⟩
                 case measure => simp [intOf]; omega)
              | (go_roundw
                 case rel => exact ⟨i + 1, k, mv, cv, V, _, by omega, hk, by go_num, rfl, rfl, Lib.hid HO.out, HS, HBW.out.drewN _⟩
                 case measure => simp [intOf]; omega)
      · obtain ⟨bb, offb, rfl, hbb, hcb⟩ := (HB.out.bel HBW.out).at_ (by omega)
        have hcellb := hcb k hkn
        have k1 : (k : Int) < (m : Int) := by omega
        have k2 : decide (m ≤ k) = false := decide_eq_false (by omega)
        clear hcb
        have HN : Hid (∀ y ∈ la.drop i, lb[k]?.getD 0 ≤ y) := Lib.hid (by
          rcases hle with h | ⟨h, h'⟩
          · exact none_left (by rw [← LA.out]; exact h)
          · exact next_le PA.out (get_some (by rw [← LA.out]; exact h)) (Int.le_of_lt h'))
        have HS := Lib.hid (HI.out.swap.step PB.out (get_some (by rw [← LB.out]; exact hkn)) HN.out).swap
        rcases hle with hle | ⟨hin, hle⟩
        case' inl =>
          have i1 : decide (i < n) = false := decide_eq_false (by omega)
        case' inr =>
          obtain ⟨ba, offa, rfl, hba, hca⟩ := (HA.out.bel HBW.out).at_ (by omega)
          have hcella := hca i hin
          have i1 : (i : Int) < (n : Int) := by omega
          have i2 : decide (la[i]?.getD 0 ≤ lb[k]?.getD 0) = false := decide_eq_false (by omega)
          clear hca hle
        all_goals
          clear hik
          obtain ⟨v, hv⟩ : ∃ v, lb[k]?.getD 0 = v := ⟨_, rfl⟩
          rw [hv] at hcellb HS
          try rw [hv] at i2
          by_cases hvo : v ∈ out
          case' pos =>
            rw [if_pos hvo] at HS
            have HH : Hid (∀ W, Bel wr W → Calls Try.prog 100 #[.slice V mv cv, .int .i64 v] W fun e w' => e = .returned (.bool true) ∧ W = w') := Lib.hid fun W hb => by
              have h := rhas_any V mv cv W.heap.size out v W ((RI.of_own HO.out).bel hb) (by have := HMV.out; omega)
              rwa [decide_eq_true hvo] at h
          case' neg =>
            rw [if_neg hvo] at HS
            have HH : Hid (∀ W, Bel wr W → Calls Try.prog 100 #[.slice V mv cv, .int .i64 v] W fun e w' => e = .returned (.bool false) ∧ W = w') := Lib.hid fun W hb => by
              have h := rhas_any V mv cv W.heap.size out v W ((RI.of_own HO.out).bel hb) (by have := HMV.out; omega)
              rwa [decide_eq_false hvo] at h
          all_goals
            clear hvo hv
            go_wp2
            go_quiet (fail)
            go_wp2_with (first | (go_at_call 100; refine (HH.out _ (by first | exact (Bel.refl _).drewN _ | exact (Bel.refl _).drew | exact Bel.refl _)).mono ?_; rintro e w1 ⟨rfl, rfl⟩) | (at_builtin; refine wpList_append_ri rfl _ _ 31 rfl w.heap.size 3 Try.underlying31 info_int V mv cv out rfl (by exact World.ownsRow.alloc HO.out _) _ (some ⟨_, 0, none⟩) 1 1 [v] rfl (by exact ri_oneR _ v _) (by have := HMV.out; omega) (by have := HHB.out; simp; omega) ?_; intro V3 cv3 w3 hown3 hg3))
            first
              | (go_roundw
                 case rel => exact ⟨i, k + 1, mv + 1, cv3, V3, _, hi, by omega, rfl, by go_num, rfl, Lib.hid hown3, HS, Below.grown ((HBW.out.drewN _).alloc _) hg3 (by have := HHB.out; simp; omega) (fun g hg => (HO.out.lt g hg).1)⟩
                 case measure => simp [intOf]; omega)
              | (go_roundw
                 case rel => exact ⟨i, k + 1, mv, cv, V, _, hi, by omega, rfl, by go_num, rfl, Lib.hid HO.out, HS, HBW.out.drewN _⟩
                 case measure => simp [intOf]; omega)
    · obtain rfl : i = n := by omega
      obtain rfl : k = m := by omega
      have HD := Lib.hid (HI.out.done (by rw [← LA.out]; exact Nat.le_refl _) (by rw [← LB.out]; exact Nat.le_refl _))
      clear hik
      go_wp2
      go_ret
      exact ⟨V, mv, cv, rfl, by rw [← HD.out]; exact RI.of_own HO.out, HBW.out⟩
end Go.Proofs.Ytghoipgldnfjoaa.Mu
