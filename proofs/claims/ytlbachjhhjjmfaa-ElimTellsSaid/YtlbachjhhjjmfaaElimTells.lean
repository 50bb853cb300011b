/-
  ElimTells, walked.
-/
import Derived.Test.YtlbachjhhjjmfaaProj5
namespace Go.Proofs.Ytlbachjhhjjmfaa.Mu
open Go.ChangeShapes Go.WideShapes Go.ChangeAt Go.RowKit Go.Shelf

attribute [local go_sem] Oper.semAt_some

set_option maxRecDepth 100000 in
set_option maxHeartbeats 2000000 in
theorem kept_any (n : Int) (KA : Option Addr) (kn kc : Nat) (keep : List Int) (bb : Bool) (hbb : bb = true ↔ KeepOk n keep) (hkc : kn ≤ kc) (hk : kn ≤ 6) (w : World) (hK : RI .i64 w w.heap.size KA kn keep) :
    Calls Try.prog 16 #[.int .i64 n, .slice KA kn kc] w fun e w' => e = .returned (.bool bb) ∧ Bel w w' := by
  have HK := Lib.hid hK
  have HL := Lib.hid hK.len
  have HBB := Lib.hid hbb
  clear hK hbb
  go_enter Try.func16, Try.ntmps16
  go_wp2_with fail
  go_loopw [9] (fun iv wr => ∃ j : Nat, j ≤ kn ∧ iv = .int .i64 (j : Int) ∧ Hid (KeepOk n (keep.take j)) ∧ Hid (Bel w wr)) (fun i _ => kn - (intOf i).toNat)
  case atStart => exact ⟨0, Nat.zero_le _, rfl, Lib.hid ⟨by simp, by simp⟩, Lib.hid (Bel.refl _)⟩
  case round =>
    obtain ⟨j, hj, rfl, HO, HB⟩ := hrel
    by_cases hlt : j < kn
    · obtain ⟨b, off, eA, hb, hc⟩ := (HK.out.bel HB.out).at_ (by omega)
      subst eA
      obtain ⟨v, hv⟩ : ∃ v, keep[j]? = some v := ⟨_, List.getElem?_eq_getElem (by rw [← HL.out]; exact hlt)⟩
      have c0 := hc j hlt
      rw [hv, Option.getD_some] at c0
      have htk : keep.take (j + 1) = keep.take j ++ [v] := by rw [List.take_add_one, hv]; rfl
      have HTK := Lib.hid htk
      have HCN : Hid (Calls Try.prog 33 #[.slice (some ⟨b, off, none⟩) j kc, .int .i64 v] wr fun e w' => e = .returned (.bool ((keep.take j).contains v)) ∧ w' = wr) := Lib.hid (Try.slices_Contains_int b off j kc keep v wr (by have := HL.out; omega) (by omega) (fun i hi => by rw [hc i (by have := HL.out; omega), List.getD_eq_getElem?_getD]))
      have HNO : Hid (¬ KeepOk n (keep.take j ++ [v]) → bb = false) := Lib.hid fun h => by
        cases hb' : bb
        · rfl
        · exact absurd (by have h2 := keepOk_take (HBB.out.1 hb') (j + 1); rwa [htk] at h2) h
      have i1 : (0 : Int) ≤ (j : Int) := by omega
      have i2 : (j : Int) < (kn : Int) := by omega
      have i3 : (j : Int) ≤ (kc : Int) := by omega
      clear hc hv htk
      by_cases h0 : v < 0
      · have hf := HNO.out (fun h => by have := (keepOk_snoc.1 h).2.1; omega)
        have HF := Lib.hid hf
        clear hf
        go_wp2_with fail
        go_ret
        exact ⟨by rw [HF.out]; rfl, HB.out⟩
      · by_cases h1 : n ≤ v
        · have hf := HNO.out (fun h => by have := (keepOk_snoc.1 h).2.2.1; omega)
          have HF := Lib.hid hf
          clear hf
          go_wp2_with fail
          go_ret
          exact ⟨by rw [HF.out]; rfl, HB.out⟩
        · have d0 : decide (v < 0) = false := by simpa using h0
          have d1 : decide (n ≤ v) = false := by simpa using h1
          obtain ⟨cb, hcb⟩ : ∃ cb, cb = (keep.take j).contains v := ⟨_, rfl⟩
          rw [← hcb] at HCN
          have HCB := Lib.hid hcb
          clear hcb
          go_wp2_with fail
          refine HCN.out.mono ?_
          rintro e w2 ⟨rfl, rfl⟩
          cases cb
          · have HO2 : Hid (KeepOk n (keep.take (j + 1))) := Lib.hid (by
              rw [HTK.out]
              refine keepOk_snoc.2 ⟨HO.out, by omega, by omega, fun h => ?_⟩
              have h2 := HCB.out
              rw [eq_comm, List.contains_eq_mem] at h2
              simp at h2
              exact h2 h)
            go_wp2_with fail
            go_roundw
            case rel => exact ⟨j + 1, by omega, by go_num, HO2, HB⟩
            case measure => simp [intOf]; omega
          · have hf := HNO.out (fun h => by
              have h3 := (keepOk_snoc.1 h).2.2.2
              have h2 := HCB.out
              rw [eq_comm, List.contains_eq_mem] at h2
              simp at h2
              exact h3 h2)
            have HF := Lib.hid hf
            clear hf
            go_wp2_with fail
            go_ret
            exact ⟨by rw [HF.out]; rfl, HB.out⟩
    · obtain rfl : j = kn := by omega
      have hbt : bb = true := HBB.out.2 (by have h := HO.out; rwa [List.take_of_length_le (by rw [← HL.out]; exact Nat.le_refl _)] at h)
      have HF := Lib.hid hbt
      clear hbt
      go_wp2_with fail
      go_ret
      exact ⟨by rw [HF.out]; rfl, HB.out⟩
/-- Of two tables of nothing Same says yes. -/
theorem same_none (w : World) : Calls Try.prog 11 #[.agg #[.slice none 0 0, .slice none 0 0, .slice none 0 0], .agg #[.slice none 0 0, .slice none 0 0, .slice none 0 0]] w fun e w' => e = .returned (.bool true) ∧ Bel w w' := by
  have h := tabSame_any none none none none none none 0 0 0 0 0 0 0 0 0 0 0 0 [] [] [] [] [] [] w RI.nil_ RI.nil_ ⟨rfl, fun h => absurd h (by omega)⟩ RI.nil_ RI.nil_ ⟨rfl, fun h => absurd h (by omega)⟩ (by omega) (fun r hr => by cases hr) (fun r hr => by cases hr)
  have e : (decide (([] : List Int) = []) && decide (([] : List Int) = []) && decide (listsOf ([] : List (Option Addr × Nat × Nat × List Int)) = listsOf [])) = true := by simp
  rw [e] at h
  exact h
theorem same_tabs {LA UA PA LB UB PB : Option Addr} {lc uc pc kn lcb ucb pcb : Nat} {xs : List Iq} {G L U : List Int} {kp : List Nat} {rows rows2 : List (Option Addr × Nat × Nat × List Int)} {w : World} (h : TabV LA lc UA uc PA pc kn L U rows w) (hT : TabIs xs G kp L U (rows.map fun r => r.2.2.2))
    (hL : RI .u8 w w.heap.size LB kn (kp.map fun v => G[v]?.getD 0)) (hU : RI .u8 w w.heap.size UB kn (kp.map fun v => upM xs v)) (hP : RP w w.heap.size PB kn rows2) (hrl : ∀ r ∈ rows2, r.2.1 = kn) (hct : (rows2.map fun r => r.2.2.2) = kp.map fun v => kp.map fun u => pairM xs G v u) (hk : kn ≤ 6) :
    Calls Try.prog 11 #[.agg #[.slice LA kn lc, .slice UA kn uc, .slice PA kn pc], .agg #[.slice LB kn lcb, .slice UB kn ucb, .slice PB kn pcb]] w fun e w' => e = .returned (.bool true) ∧ Bel w w' := by
  have h1 := tabSame_any LA UA PA LB UB PB kn lc kn uc kn pc kn lcb kn ucb kn pcb L U _ _ rows rows2 w h.1 h.2.1 h.2.2.1 hL hU hP (by omega) (fun r hr => by have := (h.2.2.2 r hr).1; omega) (fun r hr => by rw [hrl r hr]; omega)
  have e : (decide (L = kp.map fun v => G[v]?.getD 0) && decide (U = kp.map fun v => upM xs v) && decide (listsOf rows = listsOf rows2)) = true := by
    have e3 : listsOf rows = listsOf rows2 := by unfold listsOf; rw [hct]; exact hT.pair
    rw [e3, ← hT.low, ← hT.up]
    simp
  rw [e] at h1
  exact h1
set_option maxRecDepth 100000 in
set_option maxHeartbeats 4000000 in
theorem elimTells_any (n : Int) (A KA : Option Addr) (len cap kn kc : Nat) (xs : List Iq) (keep : List Int) (w : World) (hq : RQ w w.heap.size A len xs) (hqm : len ≤ 9223372036854775807) (hK : RI .i64 w w.heap.size KA kn keep) (hkc : kn ≤ kc) (hkm : kn ≤ 9223372036854775807) :
    Calls Try.prog 4 #[.int .i64 n, .slice A len cap, .slice KA kn kc] w fun e w' => e = .returned (.bool true) ∧ Bel w w' := by
  have HQ := Lib.hid hq
  have HK := Lib.hid hK
  have hgr := eGreat_any n A KA len cap kn kc w
  by_cases hgt : (decide (30 < n) || decide (60 < len) || decide (6 < kn)) = true
  · rw [hgt] at hgr
    have HGR := Lib.hid hgr
    clear hgr hgt hq hK
    go_enter Try.func4, Try.ntmps4
    go_wp2_with fail
    refine HGR.out.mono ?_
    rintro e w1 ⟨rfl, hb1⟩
    go_wp2_with fail
    refine (works5_any w1).mono ?_
    rintro e w2 ⟨rfl, hb2⟩
    have HB := Lib.hid (hb1.on hb2)
    clear hb1 hb2
    go_wp2
    go_ret
    exact ⟨rfl, HB.out⟩
  · have hgf : (decide (30 < n) || decide (60 < len) || decide (6 < kn)) = false := by simpa using hgt
    rw [hgf] at hgr
    have hn30 : n ≤ 30 ∧ len ≤ 60 ∧ kn ≤ 6 := by simp at hgf; omega
    have HGR := Lib.hid hgr
    have HMAY : Hid (∀ W, Bel w W → Calls Try.prog 14 #[.int .i64 n, .slice none 0 0, .slice A len cap] W fun e w' => e = .returned (.bool (decide (mayF n [] xs = 0))) ∧ Bel W w') := Lib.hid fun W hW => rmay4_any n none A 0 0 len cap [] xs W RI.nil_ (HQ.out.bel hW) (by omega) (by omega) (by omega)
    clear hgr hgt hgf
    rcases proj_cases n A KA len cap kn kc xs keep hq.len hK.1 (by omega) hkc (by omega) (by omega) with ⟨c, hc0, hc2, hc40, hcc2, hP⟩ | ⟨N, kp, G, rfl, n1, hm, rfl, hko, hnd, hkl, hgood, hGs, hGl, hP⟩
    · have HP := Lib.hid hP
      by_cases hm : mayF n [] xs = 0
      · obtain ⟨N, hN, n1, l1, _, _, good⟩ := may_good hm
        subst hN
        have hd : decide (mayF (N : Int) [] xs = 0) = true := by simpa using hm
        rw [hd] at HMAY
        obtain ⟨T, ws, hT, _, _⟩ := solve_core N none A 0 0 len cap [] xs hq.len rfl hm
        have HSV : Hid (∀ W, Bel w W → Calls Try.prog 15 #[.int .i64 N, .slice none 0 0, .slice A len cap] W (RPost T N W)) := Lib.hid fun W hW => rsolve4_any N none A 0 0 len cap [] xs T hT hm W RI.nil_ (HQ.out.bel hW) (by omega) (by omega) (by omega)
        cases hT1 : T.1 with
        | some i =>
          have hc : c = 40 := by
            rcases hc2 with h | h
            · rcases hcc2 h with h3 | ⟨_, ⟨S, hS⟩, _⟩
              · omega
              · rw [Int.toNat_natCast] at hS
                have := tells_none hT hS
                rw [hT1] at this; cases this
            · exact h
          subst hc
          have HSV2 : Hid (∀ W, Bel w W → Calls Try.prog 15 #[.int .i64 N, .slice none 0 0, .slice A len cap] W fun e w' => e = .returned (.tuple #[.slice none 0 0, .bool false]) ∧ Bel W w') := Lib.hid fun W hW => by
            have h := HSV.out W hW
            unfold RPost at h
            rw [hT1] at h
            exact h
          clear hq hK hP hc0 hc2 hc40 hcc2 hm good hT hT1 hd HSV
          go_enter Try.func4, Try.ntmps4
          go_wp2_with fail
          refine HGR.out.mono ?_
          rintro e w1 ⟨rfl, hb1⟩
          have HB1 := Lib.hid hb1
          clear hb1
          go_wp2_with fail
          refine (HP.out w1 (HQ.out.bel HB1.out) (HK.out.bel HB1.out)).mono ?_
          rintro e w2 ⟨rfl, hb2⟩
          have HB2 := Lib.hid (HB1.out.on hb2)
          clear hb2
          go_wp2_with fail
          refine (HMAY.out _ (HB2.out.alloc _)).mono ?_
          rintro e w3 ⟨rfl, hb3⟩
          have hq3 := hb3.blk (blk1 w2 _)
          have HB3 := Lib.hid ((HB2.out.alloc _).on hb3)
          have HQ3 := Lib.hid hq3
          clear hb3 hq3
          go_wp2_with fail
          refine (HSV2.out _ HB3.out).mono ?_
          rintro e w4 ⟨rfl, hb4⟩
          have hq4 := hb4.blk HQ3.out
          have HB4 := Lib.hid (HB3.out.on hb4)
          obtain ⟨t0, t1, t2, _, _, _⟩ := cells3 hq4
          clear hb4 hq4
          go_wp2_with fail
          refine (same_none _).mono ?_
          rintro e w5 ⟨rfl, hb5⟩
          have HB5 := Lib.hid (HB4.out.on hb5)
          clear hb5
          go_wp2_with fail
          refine (works5_any _).mono ?_
          rintro e w6 ⟨rfl, hb6⟩
          have HB6 := Lib.hid (HB5.out.on hb6)
          clear hb6
          go_wp2_with fail
          go_ret
          exact ⟨rfl, HB6.out⟩
        | none =>
          have hnk : c = 2 ∧ ¬ KeepOk (N : Int) keep := by
            rcases hc2 with h | h
            · rcases hcc2 h with h3 | ⟨_, _, h4⟩
              · omega
              · exact ⟨h, h4⟩
            · exact absurd (tells_sol hT hT1).1 (by have h4 := (hc40 h).2 T.2.1; rwa [Int.toNat_natCast] at h4)
          obtain ⟨rfl, hnk⟩ := hnk
          have HSV2 : Hid (∀ W, Bel w W → Calls Try.prog 15 #[.int .i64 N, .slice none 0 0, .slice A len cap] W fun e w' => ∃ A c, e = .returned (.tuple #[.slice A N c, .bool true]) ∧ RI .u8 w' w'.heap.size A N T.2.1 ∧ Bel W w') := Lib.hid fun W hW => by
            have h := HSV.out W hW
            unfold RPost at h
            rw [hT1] at h
            exact h
          have HKP : Hid (∀ W, Bel w W → Calls Try.prog 16 #[.int .i64 N, .slice KA kn kc] W fun e w' => e = .returned (.bool false) ∧ Bel W w') := Lib.hid fun W hW => kept_any N KA kn kc keep false ⟨fun h => (by cases h), fun h => absurd h hnk⟩ hkc (by omega) W (HK.out.bel hW)
          clear hq hK hP hc0 hc2 hc40 hcc2 hm good hT hT1 hd HSV hnk
          go_enter Try.func4, Try.ntmps4
          go_wp2_with fail
          refine HGR.out.mono ?_
          rintro e w1 ⟨rfl, hb1⟩
          have HB1 := Lib.hid hb1
          clear hb1
          go_wp2_with fail
          refine (HP.out w1 (HQ.out.bel HB1.out) (HK.out.bel HB1.out)).mono ?_
          rintro e w2 ⟨rfl, hb2⟩
          have HB2 := Lib.hid (HB1.out.on hb2)
          clear hb2
          go_wp2_with fail
          refine (HMAY.out _ (HB2.out.alloc _)).mono ?_
          rintro e w3 ⟨rfl, hb3⟩
          have hq3 := hb3.blk (blk1 w2 _)
          have HB3 := Lib.hid ((HB2.out.alloc _).on hb3)
          have HQ3 := Lib.hid hq3
          clear hb3 hq3
          go_wp2_with fail
          refine (HSV2.out _ HB3.out).mono ?_
          rintro e w4 ⟨A4, c4, rfl, _, hb4⟩
          have hq4 := hb4.blk HQ3.out
          have HB4 := Lib.hid (HB3.out.on hb4)
          have HQ4 := Lib.hid hq4
          clear hb4 hq4
          go_wp2_with fail
          refine (HKP.out _ HB4.out).mono ?_
          rintro e w4' ⟨rfl, hb4⟩
          have hq4 := hb4.blk HQ4.out
          have HB4' := Lib.hid (HB4.out.on hb4)
          obtain ⟨t0, t1, t2, _, _, _⟩ := cells3 hq4
          clear hb4 hq4
          go_wp2_with fail
          refine (same_none _).mono ?_
          rintro e w5 ⟨rfl, hb5⟩
          have HB5 := Lib.hid (HB4'.out.on hb5)
          clear hb5
          go_wp2_with fail
          refine (works5_any _).mono ?_
          rintro e w6 ⟨rfl, hb6⟩
          have HB6 := Lib.hid (HB5.out.on hb6)
          clear hb6
          go_wp2_with fail
          go_ret
          exact ⟨rfl, HB6.out⟩
      · have hc : c = 2 := by
          rcases hc2 with h | h
          · exact h
          · exact absurd (hc40 h).1 hm
        subst hc
        have hd : decide (mayF n [] xs = 0) = false := by simpa using hm
        rw [hd] at HMAY
        clear hq hK hP hc0 hc2 hc40 hcc2 hm hd
        go_enter Try.func4, Try.ntmps4
        go_wp2_with fail
        refine HGR.out.mono ?_
        rintro e w1 ⟨rfl, hb1⟩
        have HB1 := Lib.hid hb1
        clear hb1
        go_wp2_with fail
        refine (HP.out w1 (HQ.out.bel HB1.out) (HK.out.bel HB1.out)).mono ?_
        rintro e w2 ⟨rfl, hb2⟩
        have HB2 := Lib.hid (HB1.out.on hb2)
        clear hb2
        go_wp2_with fail
        refine (HMAY.out _ (HB2.out.alloc _)).mono ?_
        rintro e w3 ⟨rfl, hb3⟩
        have hq3 := hb3.blk (blk1 w2 _)
        have HB4 := Lib.hid ((HB2.out.alloc _).on hb3)
        have hq4 := hq3
        have hb4 := trivial
        clear hb3 hq3
        obtain ⟨t0, t1, t2, _, _, _⟩ := cells3 hq4
        clear hb4 hq4
        go_wp2_with fail
        refine (same_none _).mono ?_
        rintro e w5 ⟨rfl, hb5⟩
        have HB5 := Lib.hid (HB4.out.on hb5)
        clear hb5
        go_wp2_with fail
        refine (works5_any _).mono ?_
        rintro e w6 ⟨rfl, hb6⟩
        have HB6 := Lib.hid (HB5.out.on hb6)
        clear hb6
        go_wp2_with fail
        go_ret
        exact ⟨rfl, HB6.out⟩
    · have HP := Lib.hid hP
      have hd : decide (mayF (N : Int) [] xs = 0) = true := by simpa using hm
      rw [hd] at HMAY
      obtain ⟨T, ws, hT, _, _⟩ := solve_core N none A 0 0 len cap [] xs hq.len rfl hm
      have hT1 : T.1 = none := tells_none hT hGs
      have HSV2 : Hid (∀ W, Bel w W → Calls Try.prog 15 #[.int .i64 N, .slice none 0 0, .slice A len cap] W fun e w' => ∃ A c, e = .returned (.tuple #[.slice A N c, .bool true]) ∧ RI .u8 w' w'.heap.size A N T.2.1 ∧ Bel W w') := Lib.hid fun W hW => by
        have h := rsolve4_any N none A 0 0 len cap [] xs T hT hm W RI.nil_ (HQ.out.bel hW) (by omega) (by omega) (by omega)
        unfold RPost at h
        rw [hT1] at h
        exact h
      have HKP : Hid (∀ W, Bel w W → Calls Try.prog 16 #[.int .i64 N, .slice KA kn kc] W fun e w' => e = .returned (.bool true) ∧ Bel W w') := Lib.hid fun W hW => kept_any N KA kn kc _ true ⟨fun _ => hko, fun _ => rfl⟩ hkc (by omega) W (HK.out.bel hW)
      have HRP : Hid (∀ W, Bel w W → Calls Try.prog 17 #[.int .i64 N, .slice A len cap, .slice KA kn kc] W (ProjR5 xs G kp kn W)) := Lib.hid fun W hW => rproj5_any N A KA len cap kn kc xs kp G hm hgood hGs hGl hkl (by omega) (by omega) (by omega) W (HQ.out.bel hW) (HK.out.bel hW)
      have hk6 : kn ≤ 6 := by omega
      clear hq hK hP hm hT hT1 hd hGs hGl hgood hnd hkl hko
      go_enter Try.func4, Try.ntmps4
      go_wp2_with fail
      refine HGR.out.mono ?_
      rintro e w1 ⟨rfl, hb1⟩
      have HB1 := Lib.hid hb1
      clear hb1
      go_wp2_with fail
      refine (HP.out w1 (HQ.out.bel HB1.out) (HK.out.bel HB1.out)).mono ?_
      rintro e w2 ⟨LA, lc, UA, uc, PA, pc, L, U, rows, rfl, hL, hU, hPr, hrl, hTI, hb2⟩
      have HB2 := Lib.hid (HB1.out.on hb2)
      have HTV : Hid (TabV LA lc UA uc PA pc kn L U rows w2) := Lib.hid ⟨hL, hU, hPr, hrl⟩
      have HTI := Lib.hid hTI
      clear hL hU hPr hrl hTI hb2
      go_wp2_with fail
      have HAL := Lib.hid ((Bel.refl w2).alloc (.cells #[.slice LA kn lc, .slice UA kn uc, .slice PA kn pc] 26))
      refine (HMAY.out _ (HB2.out.alloc _)).mono ?_
      rintro e w3 ⟨rfl, hb3⟩
      have hq3 := hb3.blk (blk1 w2 _)
      obtain ⟨tq, htq⟩ : ∃ tq, tq = w2.heap.size := ⟨_, rfl⟩
      rw [← htq] at hq3 ⊢
      have HB23 := Lib.hid (HAL.out.on hb3)
      have HB3 := Lib.hid (HB2.out.on HB23.out)
      have HQ3 := Lib.hid hq3
      clear hb3 hq3 HAL htq
      go_wp2_with fail
      refine (HSV2.out _ HB3.out).mono ?_
      rintro e w4 ⟨A4, c4, rfl, _, hb4⟩
      have HB24 := Lib.hid (HB23.out.on hb4)
      have HB4 := Lib.hid (HB3.out.on hb4)
      have HQ4 := Lib.hid (hb4.blk HQ3.out)
      clear hb4
      go_wp2_with fail
      refine (HKP.out _ HB4.out).mono ?_
      rintro e w5 ⟨rfl, hb5⟩
      have HB25 := Lib.hid (HB24.out.on hb5)
      have HB5 := Lib.hid (HB4.out.on hb5)
      have hq5 := hb5.blk HQ4.out
      have htl : tq < w5.heap.size := (Array.getElem?_eq_some_iff.1 hq5).1
      obtain ⟨t0, t1, t2, _, _, _⟩ := cells3 hq5
      clear hb5 hq5
      go_wp2_with fail
      go_region_law (first
        | (refine step_callG rfl 10 #[] (by simp [go_sem]) ((works5_any _).mono ?_); rintro e w8 ⟨rfl, hb8⟩; refine ⟨_, rfl, ?_⟩; (have HB8 := Lib.hid (HB7.out.on hb8)); clear hb8)
        | (refine step_call rfl 11 #[.agg #[.slice LA kn lc, .slice UA kn uc, .slice PA kn pc], .agg #[.slice LB kn lcb, .slice UB kn ucb, .slice PB kn pcb]] (by simp [go_sem]) ((HSM.out).mono ?_); rintro e w7 ⟨rfl, hb7⟩; refine ⟨_, rfl, ?_⟩; (have HB7 := Lib.hid (HB6.out.on hb7)); clear hb7)
        | (refine step_call rfl 17 #[.int .i64 N, .slice A len cap, .slice KA kn kc] (by simp [go_sem]) ((HRP.out _ (HB5.out.drew)).mono ?_); rintro e w6 ⟨LB, lcb, UB, ucb, PB, pcb, rows2, rfl, hL2, hU2, hP2, hrl2, hct2, hb6⟩; refine ⟨_, rfl, ?_⟩; (have hb56 : Bel w5 w6 := (Bel.refl w5).drew.on hb6); (have HB6 := Lib.hid (HB5.out.on hb56)); (have t0' := (hb56.cell (p := ⟨tq, 0, none⟩) htl).trans t0); (have t1' := (hb56.cell (p := ⟨tq, 1, none⟩) htl).trans t1); (have t2' := (hb56.cell (p := ⟨tq, 2, none⟩) htl).trans t2); (have HSM : Hid (Calls Try.prog 11 #[.agg #[.slice LA kn lc, .slice UA kn uc, .slice PA kn pc], .agg #[.slice LB kn lcb, .slice UB kn ucb, .slice PB kn pcb]] w6 fun e w' => e = .returned (.bool true) ∧ Bel w6 w') := Lib.hid (same_tabs (HTV.out.bel (HB25.out.on hb56)) HTI.out hL2 hU2 hP2 hrl2 hct2 hk6)); clear hb6 hb56 hL2 hU2 hP2 hrl2 hct2))
      all_goals
        go_wp2_with fail
        go_ret
        exact ⟨rfl, HB8.out⟩
end Go.Proofs.Ytlbachjhhjjmfaa.Mu

