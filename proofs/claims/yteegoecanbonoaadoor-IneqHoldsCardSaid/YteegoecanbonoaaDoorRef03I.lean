/-
  The document's own answer for layer 3: Holds, walked.
-/
import Derived.Test.YteegoecanbonoaaDoorRef03H
namespace Go.Proofs.YteegoecanbonoaaDoor.Mu
open Go.ChangeShapes Go.WideShapes Go.ChangeAt Go.RowKit

theorem rmay3_is {x : Iq} {b : Bool} (h : x.may = b) (w : World) : Calls Tryd.prog 36 #[.agg #[.int .i64 x.v, .int .u8 x.m, .int .u8 x.c, .int .i64 x.r]] w fun e w' => e = .returned (.bool b) ∧ Bel w w' := by
  have h1 := rmay3_any x w; rw [h] at h1; exact h1
theorem there_is {v : Int} {av : List Int} {b : Bool} (h : okV av v = b) (G : Option Addr) (gn gc : Nat) (h0 : 0 ≤ v) (h1 : v < 1048576) (w : World) (hg : RI .u8 w w.heap.size G gn av) (hmax : gn ≤ 9223372036854775807) :
    Calls Tryd.prog 64 #[.int .i64 v, .slice G gn gc] w fun e w' => e = .returned (.bool b) ∧ w = w' := by
  have h2 := there_any v G gn gc av h0 h1 w hg hmax; rw [h] at h2; exact h2

set_option maxRecDepth 100000 in
set_option maxHeartbeats 4000000 in
theorem rholds_any (A : Option Addr) (n cap : Nat) (xs : List Iq) (G : Option Addr) (gn gc : Nat) (av : List Int) (w : World) (hr : RQ w w.heap.size A n xs) (hmax : n ≤ 1000000) (hg : RI .u8 w w.heap.size G gn av) (hgm : gn ≤ 9223372036854775807) :
    Calls Tryd.prog 34 #[.slice A n cap, .slice G gn gc] w (TellsN (holdsN av xs) (holdsE av xs) w) := by
  have HR := Lib.hid hr
  have HL := Lib.hid hr.len
  have HG := Lib.hid hg
  clear hr hg
  go_enter Tryd.func34, Tryd.ntmps34
  go_wp2
  go_loopw [6] (fun i wr => ∃ k : Nat, k ≤ n ∧ i = .int .i64 k ∧ Hid ((xs.take k).all Iq.may = true) ∧ Hid (Bel w wr)) (fun i _ => n - (intOf i).toNat)
  case atStart => exact ⟨0, Nat.zero_le _, rfl, Lib.hid (by simp), Lib.hid (Bel.refl _)⟩
  case round =>
    obtain ⟨k, hk, rfl, HN, HB⟩ := hrel
    by_cases hlt : k < n
    · obtain ⟨b, off, eA, hb, hc⟩ := (HR.out.bel HB.out).at_ (by omega)
      subst eA
      obtain ⟨x, hxk⟩ : ∃ x, xs[k]? = some x := ⟨_, List.getElem?_eq_getElem (by rw [← HL.out]; exact hlt)⟩
      obtain ⟨c0, c1, c2, c3⟩ := hc k x hxk
      have HK := Lib.hid hxk
      clear hc hxk
      cases hv : x.may
      · have HV := Lib.hid hv
        clear hv
        go_wp2_with fail
        refine (rmay3_is HV.out _).mono ?_
        rintro e w1 ⟨rfl, hb1⟩
        have HB1 := Lib.hid (HB.out.on hb1)
        clear hb1
        go_wp2_with fail
        go_ret2
        have h := all_no HK.out HV.out
        refine ⟨?_, HB1.out⟩
        unfold holdsN holdsE
        rw [h]; rfl
      · have HV := Lib.hid hv
        clear hv
        go_wp2_with fail
        refine (rmay3_is HV.out _).mono ?_
        rintro e w1 ⟨rfl, hb1⟩
        have HB1 := Lib.hid (HB.out.on hb1)
        clear hb1
        go_wp2_with fail
        go_roundw
        case rel => exact ⟨k + 1, by omega, by go_num, Lib.hid (by rw [take_snoc_ HK.out, List.all_append, HN.out]; simp [HV.out]), HB1⟩
        case measure => simp [intOf]; omega
    · obtain rfl : n = k := by omega
      have e : xs.take n = xs := by rw [HL.out]; exact List.take_length
      rw [e] at HN
      clear e
      obtain ⟨wo, ho⟩ : ∃ wo : World, wo = wr := ⟨_, rfl⟩
      subst ho
      go_wp2
      clear hlt
      go_loopw [7] (fun i wr => ∃ k : Nat, k ≤ n ∧ i = .int .i64 k ∧ Hid ((xs.take k).all (Iq.stands av) = true) ∧ Hid (Bel w wr)) (fun i _ => n - (intOf i).toNat)
      case atStart => exact ⟨0, Nat.zero_le _, rfl, Lib.hid (by simp), HB⟩
      case round =>
        obtain ⟨k, hk, rfl, HS, HB2⟩ := hrel
        by_cases hlt : k < n
        · obtain ⟨b, off, eA, hb, hc⟩ := (HR.out.bel HB2.out).at_ (by omega)
          subst eA
          obtain ⟨x, hxk⟩ : ∃ x, xs[k]? = some x := ⟨_, List.getElem?_eq_getElem (by rw [← HL.out]; exact hlt)⟩
          obtain ⟨c0, c1, c2, c3⟩ := hc k x hxk
          have HK := Lib.hid hxk
          have HMX := Lib.hid (List.all_eq_true.1 HN.out x (List.mem_of_getElem? hxk))
          clear hc hxk
          have HLV := Lib.hid (may_left HMX.out)
          have HRV := Lib.hid (may_right HMX.out)
          have HGW := Lib.hid (HG.out.bel HB2.out)
          have hrr : -1 ≤ x.r := by have h := HMX.out; unfold Iq.may mayI at h; simp only [Bool.and_eq_true, decide_eq_true_eq] at h; exact h.1.2
          cases hs1 : standsB (lhB x.m) (lvF x.v x.m) av <;> cases hs2 : standsB (rhB x.r) x.r av
          case' true.true =>
            have HST : Hid (x.stands av = true) := Lib.hid (by unfold Iq.stands; rw [hs1, hs2]; rfl)
          case' false.false | false.true | true.false =>
            have HST : Hid (x.stands av = false) := Lib.hid (by unfold Iq.stands; rw [hs1, hs2]; rfl)
          all_goals
            by_cases hm : x.m = 0 <;> by_cases hq : x.r = -1
          all_goals
            have P1 : Hid (x.m = 0 → okV av x.v = standsB (lhB x.m) (lvF x.v x.m) av ∧ 0 ≤ x.v ∧ x.v < 1048576) := Lib.hid (fun h => by
              have h2 := HLV.out (by unfold lhB; simp [h])
              rw [h] at h2 ⊢
              exact ⟨rfl, h2⟩)
            have P2 : Hid (¬ x.r = -1 → okV av x.r = standsB (rhB x.r) x.r av ∧ 0 ≤ x.r ∧ x.r < 1048576) := Lib.hid (fun h => by
              have hb : rhB x.r = true := by unfold rhB; simp [h]
              have h2 := HRV.out hb
              rw [hb]
              exact ⟨rfl, h2⟩)
            have P3 : Hid (¬ x.m = 0 → standsB (lhB x.m) (lvF x.v x.m) av = true) := Lib.hid (fun h => by
              have : lhB x.m = false := by unfold lhB; simp [h]
              rw [this]; rfl)
            have P4 : Hid (x.r = -1 → standsB (rhB x.r) x.r av = true) := Lib.hid (fun h => by
              have : rhB x.r = false := by unfold rhB; simp [h]
              rw [this]; rfl)
            rw [hs1] at P1 P3
            rw [hs2] at P2 P4
            clear hs1 hs2
            first
            | (exfalso; have h := P3.out hm; cases h; done)
            | (exfalso; have h := P4.out hq; cases h; done)
            | skip
          all_goals
            first
            | (have HT1 := Lib.hid (there_is (P1.out hm).1 G gn gc (P1.out hm).2.1 (P1.out hm).2.2 wr HGW.out hgm)
               have hmz : (x.m == 0) = true := by rw [beq_iff_eq]; exact hm)
            | (have hmz : (x.m == 0) = false := by rw [beq_eq_false_iff_ne]; exact hm)
            first
            | (have HT2 := Lib.hid (there_is (P2.out hq).1 G gn gc (P2.out hq).2.1 (P2.out hq).2.2 wr HGW.out hgm)
               have hqz : decide (0 ≤ x.r) = true := decide_eq_true (P2.out hq).2.1)
            | (have hqz : decide (0 ≤ x.r) = false := decide_eq_false (by rw [hq]; decide))
            clear P1 P2 P3 P4 hm hq hrr HLV HRV HGW
            go_wp2_with (first | (go_at_call 64; (with_reducible refine HT1.out.mono ?_); rintro e w' ⟨rfl, rfl⟩) | (go_at_call 64; (with_reducible refine HT2.out.mono ?_); rintro e w' ⟨rfl, rfl⟩))
            first
            | (go_ret2
               have h := all_no (p := Iq.stands av) HK.out HST.out
               refine ⟨?_, HB2.out⟩
               unfold holdsN holdsE
               rw [HN.out, h]; rfl)
            | (go_roundw
               case rel => exact ⟨k + 1, by omega, by go_num, Lib.hid (by rw [take_snoc_ HK.out, List.all_append, HS.out]; simp [HST.out]), HB2⟩
               case measure => simp [intOf]; omega)
        · obtain rfl : k = n := by omega
          have e : xs.take k = xs := by rw [HL.out]; exact List.take_length
          rw [e] at HS
          clear e hlt
          go_wp2
          go_loopw [8] (fun i wr => ∃ j : Nat, j ≤ k ∧ i = .int .i64 j ∧ Hid ((xs.take j).all (fun x => !Iq.bad av x) = true) ∧ Hid (Bel w wr)) (fun i _ => k - (intOf i).toNat)
          case atStart => exact ⟨0, Nat.zero_le _, rfl, Lib.hid (by simp), HB2⟩
          case round =>
            obtain ⟨j, hj, rfl, HD, HB3⟩ := hrel
            by_cases hlt : j < k
            · obtain ⟨b, off, eA, hb, hc⟩ := (HR.out.bel HB3.out).at_ (by omega)
              subst eA
              obtain ⟨x, hxk⟩ : ∃ x, xs[j]? = some x := ⟨_, List.getElem?_eq_getElem (by rw [← HL.out]; exact hlt)⟩
              obtain ⟨c0, c1, c2, c3⟩ := hc j x hxk
              have HK := Lib.hid hxk
              have HMX := Lib.hid (List.all_eq_true.1 HN.out x (List.mem_of_getElem? hxk))
              have HSX := Lib.hid (List.all_eq_true.1 HS.out x (List.mem_of_getElem? hxk))
              clear hc hxk
              cases hv : x.bad av
              all_goals
                have HV := Lib.hid hv
                have HO : Hid (∀ W, Bel w W → Calls Tryd.prog 65 #[.agg #[.int .i64 x.v, .int .u8 x.m, .int .u8 x.c, .int .i64 x.r], .slice G gn gc] W fun e w' => e = .returned (.bool _) ∧ Bel W w') := Lib.hid fun W hW => by
                  have h := one_any x.v x.m x.c x.r G gn gc av HMX.out HSX.out W (HG.out.bel hW) hgm
                  rw [show (Iq.mk x.v x.m x.c x.r) = x from rfl, hv] at h
                  exact h
                clear hv
                go_wp2_with fail
                refine (HO.out _ HB3.out).mono ?_
                rintro e w1 ⟨rfl, hb1⟩
                have HB4 := Lib.hid (HB3.out.on hb1)
                clear hb1
                go_wp2_with fail
              · go_roundw
                case rel => exact ⟨j + 1, by omega, by go_num, Lib.hid (by rw [take_snoc_ HK.out, List.all_append, HD.out]; simp [HV.out]), HB4⟩
                case measure => simp [intOf]; omega
              · go_ret2
                have h := idxF_at (p := Iq.bad av) HK.out HV.out HD.out
                refine ⟨?_, HB4.out⟩
                unfold holdsN holdsE
                rw [HN.out, HS.out, if_pos rfl, if_pos rfl, h]; rfl
            · obtain rfl : j = k := by omega
              have e : xs.take j = xs := by rw [HL.out]; exact List.take_length
              rw [e] at HD
              clear e
              have h := idxF_none (p := Iq.bad av) HD.out
              have H := Lib.hid h
              clear h
              go_wp2
              go_ret2
              refine ⟨?_, HB3.out⟩
              unfold holdsN holdsE
              rw [HN.out, HS.out, if_pos rfl, if_pos rfl, H.out]; rfl
end Go.Proofs.YteegoecanbonoaaDoor.Mu
