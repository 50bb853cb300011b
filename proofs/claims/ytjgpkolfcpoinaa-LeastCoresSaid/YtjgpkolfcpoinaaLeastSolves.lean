/-
  The statement LeastSolves: walked.
-/
import Derived.Test.YtjgpkolfcpoinaaRef04S
namespace Go.Proofs.Ytjgpkolfcpoinaa.Mu
open Go.ChangeShapes Go.WideShapes Go.ChangeAt Go.RowKit Go.Shelf

attribute [local go_sem] Oper.semAt_some

theorem mayF_two {n : Int} {low : List Int} {xs : List Iq} (hn : n ≤ 1048576) (hl : xs.length ≤ 1048576) (h : mayF n low xs ≠ 0) : mayF n low xs = 2 := by
  unfold mayF at h ⊢
  rw [if_neg (by omega)] at h ⊢
  split
  · rfl
  · rename_i h1
    rw [if_neg h1] at h
    split
    · rfl
    · rename_i h2
      rw [if_neg h2] at h
      split
      · rfl
      · rename_i h3
        rw [if_neg h3] at h
        exact absurd rfl h

set_option maxRecDepth 100000 in
set_option maxHeartbeats 4000000 in
theorem leastSolves_any (n : Int) (G A : Option Addr) (ln lk len cap : Nat) (low : List Int) (xs : List Iq) (w : World) (hl : RI .u8 w w.heap.size G ln low) (hlm : ln ≤ 9223372036854775807) (hq : RQ w w.heap.size A len xs) (hqm : len ≤ 9223372036854775807) :
    Calls Try.prog 4 #[.int .i64 n, .slice G ln lk, .slice A len cap] w fun e w' => e = .returned (.bool true) ∧ Bel w w' := by
  have HG := Lib.hid hl
  have HQ := Lib.hid hq
  have HLQ := Lib.hid hq.len
  clear hl hq
  obtain ⟨g, hg⟩ : ∃ g, g = (decide (200 < n) || decide (300 < ln) || decide (400 < len)) := ⟨_, rfl⟩
  have hgr := fun W => lgreat_any n G A ln lk len cap W
  rw [← hg] at hgr
  have HGR := Lib.hid hgr
  clear hgr
  cases g with
  | true =>
    clear hg
    go_enter Try.func4, Try.ntmps4
    go_wp2_with fail
    refine (HGR.out _).mono ?_
    rintro e w1 ⟨rfl, hb1⟩
    have HB1 := Lib.hid hb1
    clear hb1
    go_wp2_with fail
    refine (works4_any _).mono ?_
    rintro e w2 ⟨rfl, hb2⟩
    have HB2 := Lib.hid (HB1.out.on hb2)
    clear hb2
    go_wp2
    go_ret
    exact ⟨rfl, HB2.out⟩
  | false =>
    obtain ⟨s1, s2, s3⟩ : n ≤ 200 ∧ ln ≤ 300 ∧ len ≤ 400 := by simp at hg; omega
    clear hg hqm
    have HMY := Lib.hid (fun W (hW : Bel w W) => rmay4_any n G A ln lk len cap low xs W (HG.out.bel hW) (HQ.out.bel hW) (by omega) (by omega) (by omega))
    by_cases hm : mayF n low xs = 0
    case neg =>
      have hno := fun W (hW : Bel w W) => solve_no n G A ln lk len cap low xs W (HG.out.bel hW) (HQ.out.bel hW) hlm hm
      rw [mayF_two (by omega) (by rw [← HLQ.out]; omega) hm] at hno
      rw [decide_eq_false hm] at HMY
      have HNO := Lib.hid hno
      clear hno hm hlm
      go_enter Try.func4, Try.ntmps4
      go_wp2_with fail
      refine (HGR.out _).mono ?_
      rintro e w1 ⟨rfl, hb1⟩
      have HB1 := Lib.hid hb1
      clear hb1
      go_wp2_with fail
      refine (HNO.out _ HB1.out).mono ?_
      rintro e w2 ⟨rfl, hb2⟩
      have HB2 := Lib.hid (HB1.out.on hb2)
      clear hb2
      go_wp2_with fail
      refine (HMY.out _ HB2.out).mono ?_
      rintro e w3 ⟨rfl, hb3⟩
      have HB3 := Lib.hid (HB2.out.on hb3)
      clear hb3
      go_wp2_with fail
      refine (works4_any _).mono ?_
      rintro e w4 ⟨rfl, hb4⟩
      have HB4 := Lib.hid (HB3.out.on hb4)
      clear hb4
      go_wp2
      go_ret
      exact ⟨rfl, HB4.out⟩
    case pos =>
      clear hlm
      obtain ⟨N, rfl, _⟩ := may_good hm
      obtain ⟨T, ws, hT, hc⟩ := solve_good N G A ln lk len cap low xs HLQ.out HG.out.len hm
      have HSV := Lib.hid (fun W (hW : Bel w W) => hc W (HG.out.bel hW) (HQ.out.bel hW))
      have HRS := Lib.hid (fun W (hW : Bel w W) => rsolve4_any N G A ln lk len cap low xs T hT hm W (HG.out.bel hW) (HQ.out.bel hW) (by omega) (by omega) (by omega))
      have HTS := Lib.hid hT.solves
      rw [decide_eq_true hm] at HMY
      clear hm hc hT
      unfold SolvePost at HSV
      unfold RPost at HRS
      obtain ⟨t1, t2, t3⟩ := T
      dsimp only at HSV HRS HTS
      cases t1 with
      | none =>
        have HL2 := Lib.hid ((HTS.out rfl).1)
        clear HTS
        go_enter Try.func4, Try.ntmps4
        go_wp2_with fail
        refine (HGR.out _).mono ?_
        rintro e w1 ⟨rfl, hb1⟩
        have HB1 := Lib.hid hb1
        clear hb1
        go_wp2_with fail
        refine (HSV.out _ HB1.out).mono ?_
        rintro e w2 ⟨ga, rfl, ha, _, hb2⟩
        have HA2 := Lib.hid (ha.ri (n := N) HL2.out.symm)
        have HB2 := Lib.hid (HB1.out.on hb2)
        clear ha hb2
        go_wp2_with fail
        refine (HMY.out _ HB2.out).mono ?_
        rintro e w3 ⟨rfl, hb3⟩
        have HA3 := Lib.hid (HA2.out.bel hb3)
        have HB3 := Lib.hid (HB2.out.on hb3)
        clear hb3
        go_wp2_with fail
        refine (HRS.out _ HB3.out).mono ?_
        rintro e w4 ⟨A4, c4, rfl, hr4, hb4⟩
        have HA4 := Lib.hid (HA3.out.bel hb4)
        have HR4 := Lib.hid hr4
        have HB4 := Lib.hid (HB3.out.on hb4)
        clear hr4 hb4
        have he := mequal_any (some ⟨ga, 0, none⟩) A4 N N N c4 t2 t2 w4 HA4.out HR4.out (by omega) (by omega)
        rw [decide_eq_true rfl] at he
        have HE := Lib.hid he
        clear he
        go_wp2_with fail
        refine HE.out.mono ?_
        rintro e w5 ⟨rfl, hb5⟩
        have HB5 := Lib.hid (HB4.out.on hb5)
        clear hb5
        go_wp2_with fail
        refine (works4_any _).mono ?_
        rintro e w6 ⟨rfl, hb6⟩
        have HB6 := Lib.hid (HB5.out.on hb6)
        clear hb6
        go_wp2
        go_ret
        exact ⟨rfl, HB6.out⟩
      | some i =>
        clear HTS
        go_enter Try.func4, Try.ntmps4
        go_wp2_with fail
        refine (HGR.out _).mono ?_
        rintro e w1 ⟨rfl, hb1⟩
        have HB1 := Lib.hid hb1
        clear hb1
        go_wp2_with fail
        refine (HSV.out _ HB1.out).mono ?_
        rintro e w2 ⟨B2, A2, c2, _, rfl, _, hb2⟩
        have HB2 := Lib.hid (HB1.out.on hb2)
        clear hb2
        go_wp2_with fail
        refine (HMY.out _ HB2.out).mono ?_
        rintro e w3 ⟨rfl, hb3⟩
        have HB3 := Lib.hid (HB2.out.on hb3)
        clear hb3
        go_wp2_with fail
        refine (HRS.out _ HB3.out).mono ?_
        rintro e w4 ⟨rfl, hb4⟩
        have HB4 := Lib.hid (HB3.out.on hb4)
        clear hb4
        go_wp2_with fail
        refine (works4_any _).mono ?_
        rintro e w5 ⟨rfl, hb5⟩
        have HB5 := Lib.hid (HB4.out.on hb5)
        clear hb5
        go_wp2
        go_ret
        exact ⟨rfl, HB5.out⟩
end Go.Proofs.Ytjgpkolfcpoinaa.Mu

