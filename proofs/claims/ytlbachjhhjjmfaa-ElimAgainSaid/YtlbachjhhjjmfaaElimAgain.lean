/-
  ElimAgain, walked.
-/
import Derived.Test.YtlbachjhhjjmfaaAgainMath
import Derived.BigQuiet
namespace Go.Proofs.Ytlbachjhhjjmfaa.Mu
open Go.ChangeShapes Go.WideShapes Go.ChangeAt Go.RowKit Go.Shelf

attribute [local go_sem] Oper.semAt_some

set_option maxHeartbeats 1000000 in
/-- slices.Equal at []api.Mult, where both rows hold the same: nothing but the count of draws moves. -/
theorem mequal_quiet (A B : Option Addr) (n c d : Nat) (xs : List Int) (w : World) (ha : RI .u8 w w.heap.size A n xs) (hb : RI .u8 w w.heap.size B n xs) (hn : n ≤ 1000000000) :
    Calls Try.prog 26 #[.slice A n c, .slice B n d] w fun e w' => e = .returned (.bool true) ∧ ∃ m, w' = w.drewN m := by
  have HA := Lib.hid ha
  have HB := Lib.hid hb
  have HL := Lib.hid ha.len
  clear ha hb
  go_enter Try.func26, Try.ntmps26
  go_wp2
  go_loopw [13] (fun i wr => ∃ k : Nat, k ≤ n ∧ i = .int .i64 (k : Int) ∧ Hid (∃ m, wr = w.drewN m)) (fun i _ => n - (intOf i).toNat)
  case atStart => exact ⟨0, Nat.zero_le _, rfl, Lib.hid ⟨0, rfl⟩⟩
  case round =>
    obtain ⟨k, hk, rfl, HW⟩ := hrel
    obtain ⟨m, hm⟩ := HW.out
    have HBW : Hid (Bel w wr) := Lib.hid (by rw [hm]; exact (Bel.refl w).drewN m)
    clear hm
    by_cases hlt : k < n
    · obtain ⟨b, off, eA, hb, hc⟩ := (HA.out.bel HBW.out).at_ (by omega)
      obtain ⟨b', off', eB, hb', hc'⟩ := (HB.out.bel HBW.out).at_ (by omega)
      subst eA
      subst eB
      obtain ⟨x, hxk⟩ : ∃ x, xs[k]? = some x := ⟨_, List.getElem?_eq_getElem (by rw [← HL.out]; exact hlt)⟩
      have c0 := hc k hlt
      have d0 := hc' k hlt
      rw [hxk, Option.getD_some] at c0 d0
      have i1 : (0 : Int) ≤ (k : Int) := by omega
      have i2 : (k : Int) < (n : Int) := by omega
      clear hc hc' hxk
      go_wp2_with fail
      go_quiet (fail)
      go_wp2
      go_roundw
      case rel => exact ⟨k + 1, by omega, by go_num, Lib.hid (by obtain ⟨m, hm⟩ := HW.out; exact ⟨_, by rw [hm, World.drewN_drewN]⟩)⟩
      case measure => simp [intOf]; omega
    · obtain rfl : k = n := by omega
      go_wp2
      go_ret
      exact ⟨rfl, HW.out⟩
theorem range_keep (kn : Nat) : KeepOk kn ((List.range kn).map fun (x : Nat) => (x : Int)) := by
  refine ⟨fun v hv => ?_, ?_⟩
  · obtain ⟨x, hx, rfl⟩ := List.mem_map.1 hv
    have := List.mem_range.1 hx
    omega
  · exact List.Pairwise.map _ (fun a b h e => h (by omega)) List.nodup_range
theorem inq_may {n : Nat} {xs : List Iq} {G L U : List Int} {kp : List Nat} {rows : List (Option Addr × Nat × Nat × List Int)} (hG : SolQ n xs G) (hk : ∀ v ∈ kp, v < n) (hkn : kp.length ≤ 150) (h : TabIs xs G kp L U (rows.map fun r => r.2.2.2)) (hl : (inqs L U rows kp.length kp.length).length ≤ 60000) :
    mayF kp.length [] (inqs L U rows kp.length kp.length) = 0 := by
  refine mayF_ok (by omega) (by omega) (.inl rfl) (fun m hm => by cases hm) fun x hx => ⟨?_, inq_good hG hk h hx⟩
  have hg := inq_good hG hk h hx
  obtain ⟨i, hi, hx | hx | ⟨j, hj, hx⟩⟩ := mem_inqs.1 hx
  · obtain ⟨e, rfl⟩ := mem_low.1 hx
    unfold GoodQ at hg
    unfold Iq.may mayI isB isVarB isMultB
    simp at hg ⊢
    omega
  · obtain ⟨e, rfl⟩ := mem_up.1 hx
    unfold GoodQ at hg
    unfold Iq.may mayI isB isVarB isMultB
    simp at hg ⊢
    omega
  · obtain ⟨e, rfl⟩ := mem_pair.1 hx
    unfold GoodQ at hg
    unfold Iq.may mayI isB isVarB isMultB
    simp at hg ⊢
    omega
theorem no_int {off : Nat} {kd : IntKind} {x : Int} {a1 a2 a3 : Option Addr} {n1 n2 n3 c1 c2 c3 : Nat} (h : (#[Value.slice a1 n1 c1, Value.slice a2 n2 c2, Value.slice a3 n3 c3] : Array Value)[off]? = some (.int kd x)) : False := by
  match off, h with
  | 0, h => simp at h
  | 1, h => simp at h
  | 2, h => simp at h
  | k + 3, h => simp at h
theorem no_slice {off : Nat} {a : Option Addr} {n c : Nat} {a1 a2 a3 : Option Addr} {j c1 c2 c3 : Nat} (hn : n ≠ j) (h : (#[Value.slice a1 j c1, Value.slice a2 j c2, Value.slice a3 j c3] : Array Value)[off]? = some (.slice a n c)) : False := by
  match off, h with
  | 0, h => simp at h; omega
  | 1, h => simp at h; omega
  | 2, h => simp at h; omega
  | k + 3, h => simp at h
section
variable {w w' : World} {tz j c1 c2 c3 : Nat} {a1 a2 a3 : Option Addr} {t : TypeId}
theorem ri_put {kd : IntKind} {A : Option Addr} {n : Nat} {l : List Int} (hs : w'.heap.size = w.heap.size) (ho : ∀ b, b ≠ tz → w'.heap[b]? = w.heap[b]?) (hz : w.heap[tz]? = some (.cells #[.slice a1 j c1, .slice a2 j c2, .slice a3 j c3] t (0, 0))) (h : RI kd w w.heap.size A n l) : RI kd w' w'.heap.size A n l :=
  ⟨h.1, fun hn => by
    obtain ⟨b, off, e, hb, hc⟩ := h.2 hn
    have hne : b ≠ tz := by
      rintro rfl
      have h0 := hc 0 hn
      simp only [Nat.add_zero, World.cell?, hz] at h0
      exact no_int (by simpa using h0)
    exact ⟨b, off, e, by rw [hs]; exact hb, fun k hk => (World.cell?_of_block (a := ⟨b, off + k, none⟩) (ho b hne)).trans (hc k hk)⟩⟩
theorem rp_put {PA : Option Addr} {n : Nat} {rows : List (Option Addr × Nat × Nat × List Int)} (hs : w'.heap.size = w.heap.size) (ho : ∀ b, b ≠ tz → w'.heap[b]? = w.heap[b]?) (hz : w.heap[tz]? = some (.cells #[.slice a1 j c1, .slice a2 j c2, .slice a3 j c3] t (0, 0))) (hm : ∀ r ∈ rows, r.2.1 ≠ j) (h : RP w w.heap.size PA n rows) : RP w' w'.heap.size PA n rows :=
  ⟨h.1, fun hn => by
    obtain ⟨b, off, e, hb, hc⟩ := h.2 hn
    obtain ⟨y, hy⟩ : ∃ y, rows[0]? = some y := ⟨_, List.getElem?_eq_getElem (by rw [← h.1]; exact hn)⟩
    have hne : b ≠ tz := by
      rintro rfl
      have h0 := (hc 0 y hy).1
      simp only [Nat.add_zero, World.cell?, hz] at h0
      exact no_slice (hm y (List.mem_of_getElem? hy)) (by simpa using h0)
    exact ⟨b, off, e, by rw [hs]; exact hb, fun k r hr => ⟨(World.cell?_of_block (a := ⟨b, off + k, none⟩) (ho b hne)).trans (hc k r hr).1, ri_put hs ho hz (hc k r hr).2.1, (hc k r hr).2.2⟩⟩⟩
end
theorem ri_tail {kd : IntKind} {w : World} {B b off n : Nat} {l : List Int} (h : RI kd w B (some ⟨b, off, none⟩) n l) (hn : 1 ≤ n) : RI kd w B (some ⟨b, off + 1, none⟩) (n - 1) l.tail := by
  refine ⟨by rw [List.length_tail, ← h.1], fun _ => ?_⟩
  obtain ⟨b', off', e, hb, hc⟩ := h.2 hn
  cases e
  refine ⟨b, off + 1, rfl, hb, fun k hk => ?_⟩
  have h1 := hc (k + 1) (by omega)
  rw [List.getElem?_tail, Nat.add_assoc, Nat.add_comm 1 k]
  exact h1
theorem tabs_tail {xs : List Iq} {G L U L3 U3 : List Int} {kp : List Nat} {rr rr3 : List (List Int)} (h : TabIs xs G kp L U rr) (h3 : TabIs xs G kp.tail L3 U3 rr3) : L3 = L.tail ∧ U3 = U.tail ∧ rr3 = rr.tail.map List.tail := by
  refine ⟨by rw [h.low, h3.low, List.map_tail], by rw [h.up, h3.up, List.map_tail], ?_⟩
  rw [h.pair, h3.pair, ← List.map_tail, List.map_map]
  apply List.map_congr_left
  intro v _
  simp only [Function.comp]
  rw [List.map_tail]
theorem range_take {kn j : Nat} (hj : j < kn) : (((List.range kn).map fun (x : Nat) => (x : Int)).take (j + 1)).map (Value.int .i64) = (((List.range kn).map fun (x : Nat) => (x : Int)).take j).map (Value.int .i64) ++ [.int .i64 j] := by
  rw [List.take_add_one, List.getElem?_map, List.getElem?_range hj, List.map_append]
  rfl
set_option maxRecDepth 100000 in
set_option maxHeartbeats 4000000 in
theorem elimAgain_any (n : Int) (A KA : Option Addr) (len cap kn kc : Nat) (xs : List Iq) (keep : List Int) (w : World) (hq : RQ w w.heap.size A len xs) (hqm : len ≤ 9223372036854775807) (hK : RI .i64 w w.heap.size KA kn keep) (hkc : kn ≤ kc) (hkm : kn ≤ 9223372036854775807) :
    Calls Try.prog 6 #[.int .i64 n, .slice A len cap, .slice KA kn kc] w fun e w' => e = .returned (.bool true) ∧ Bel w w' := by
  have HQ := Lib.hid hq
  have HK := Lib.hid hK
  have hgr := eGreat_any n A KA len cap kn kc w
  by_cases hgt : (decide (30 < n) || decide (60 < len) || decide (6 < kn)) = true
  · rw [hgt] at hgr
    have HGR := Lib.hid hgr
    clear hgr hgt hq hK
    go_enter Try.func6, Try.ntmps6
    go_wp2_with fail
    refine HGR.out.mono ?_
    rintro e w1 ⟨rfl, hb1⟩
    go_wp2_with fail
    refine (works5_any w1).mono ?_
    rintro e w2 ⟨rfl, hb2⟩
    have HB := Lib.hid (hb1.on hb2)
    clear hb1 hb2
    go_wp2
    go_ret
    exact ⟨rfl, HB.out⟩
  · have hgf : (decide (30 < n) || decide (60 < len) || decide (6 < kn)) = false := by simpa using hgt
    rw [hgf] at hgr
    have hn30 : n ≤ 30 ∧ len ≤ 60 ∧ kn ≤ 6 := by simp at hgf; omega
    have HGR := Lib.hid hgr
    clear hgr hgt hgf
    rcases proj_cases n A KA len cap kn kc xs keep hq.len hK.1 (by omega) hkc (by omega) (by omega) with ⟨c, hc0, hc2, _, _, hP⟩ | ⟨N, kp, G, rfl, n1, hm, rfl, hko, hnd, hkl, hgood, hGs, hGl, hP⟩
    · have HP := Lib.hid hP
      have HC := Lib.hid hc2
      clear hP hq hK hc2
      go_enter Try.func6, Try.ntmps6
      go_wp2_with fail
      refine HGR.out.mono ?_
      rintro e w1 ⟨rfl, hb1⟩
      have HB1 := Lib.hid hb1
      clear hb1
      go_wp2_with fail
      refine (HP.out w1 (HQ.out.bel HB1.out) (HK.out.bel HB1.out)).mono ?_
      rintro e w2 ⟨rfl, hb2⟩
      have HB2 := Lib.hid (HB1.out.on hb2)
      clear hb2
      have hne : (c != 0) = true := by simpa using hc0
      go_wp2_with fail
      refine (works5_any _).mono ?_
      rintro e w3 ⟨rfl, hb3⟩
      have HB := Lib.hid ((HB2.out.alloc _).on hb3)
      clear hb3
      go_wp2
      go_ret
      exact ⟨rfl, HB.out⟩
    · have HP := Lib.hid hP
      have HGS := Lib.hid hGs
      have HGLs := Lib.hid hGl
      have HGOOD := Lib.hid hgood
      have HM := Lib.hid hm
      have HND := Lib.hid hnd
      have HKL := Lib.hid hkl
      have hkk : kn = kp.length := by have := hK.1; simpa using this
      have HKN := Lib.hid hkk
      have HQL := Lib.hid hq.len
      clear hP hq hK hGs hGl hgood hm hnd hkl hkk hko
      go_enter Try.func6, Try.ntmps6
      go_wp2_with fail
      refine HGR.out.mono ?_
      rintro e w1 ⟨rfl, hb1⟩
      have HB1 := Lib.hid hb1
      clear hb1
      go_wp2_with fail
      refine (HP.out w1 (HQ.out.bel HB1.out) (HK.out.bel HB1.out)).mono ?_
      rintro e w2 ⟨LA, lc, UA, uc, PA, pc, L, U, rows, rfl, hL, hU, hPr, hrl, hT, hb2⟩
      have HB2 := Lib.hid (HB1.out.on hb2)
      have HTV : Hid (TabV LA lc UA uc PA pc kn L U rows w2) := Lib.hid ⟨hL, hU, hPr, hrl⟩
      have HT := Lib.hid hT
      have HIQ : Hid (∀ W, TabV LA lc UA uc PA pc kn L U rows W → Calls Try.prog 25 #[.agg #[.slice LA kn lc, .slice UA kn uc, .slice PA kn pc]] W (IneqsPost (inqs L U rows kn kn) W)) := Lib.hid fun W h => ineqs_any LA UA PA lc uc pc kn L U rows W h (tab_may HGS.out HKL.out (by rw [← HKN.out]; omega) hT) (by omega)
      clear hL hU hPr hrl hT hb2
      go_wp2_with fail
      have hb3 : Bel w2 (w2.alloc (.cells #[.slice LA kn lc, .slice UA kn uc, .slice PA kn pc] 26)) := (Bel.refl w2).alloc _
      have hq3 := blk1 w2 (.cells #[.slice LA kn lc, .slice UA kn uc, .slice PA kn pc] 26)
      obtain ⟨w3, hw3⟩ : ∃ w3, w3 = w2.alloc (.cells #[.slice LA kn lc, .slice UA kn uc, .slice PA kn pc] 26) := ⟨_, rfl⟩
      obtain ⟨tb, htb⟩ : ∃ tb, tb = w2.heap.size := ⟨_, rfl⟩
      rw [← hw3] at hb3 hq3 ⊢
      rw [← htb] at hq3 ⊢
      have HB3 := Lib.hid (HB2.out.on hb3)
      have HTV3 := Lib.hid (HTV.out.bel hb3)
      have HQ3 := Lib.hid hq3
      obtain ⟨t0, t1, t2, f0, f1, f2⟩ := cells3 hq3
      clear hw3 htb hb3 hq3 HTV
      go_wp2_with fail
      refine (HIQ.out w3 HTV3.out).mono ?_
      rintro e w4 ⟨A4, c4, rfl, hq4, hl4, hb4⟩
      obtain ⟨ys, hys⟩ : ∃ ys, ys = inqs L U rows kn kn := ⟨_, rfl⟩
      rw [← hys] at hq4 hl4 ⊢
      have HYS := Lib.hid hys
      obtain ⟨ln4, hln4⟩ : ∃ ln4, ln4 = ys.length := ⟨_, rfl⟩
      rw [← hln4] at hq4 hl4 ⊢
      have HLN4 := Lib.hid hln4
      have HB4 := Lib.hid (HB3.out.on hb4)
      have HTV4 := Lib.hid (HTV3.out.bel hb4)
      have HQ4 := Lib.hid (hb4.blk HQ3.out)
      have HYQ := Lib.hid hq4
      clear hb4 hys hln4 hq4 HTV3 HQ3 t0 t1 t2 f0 f1 f2 HIQ
      go_wp2_with fail
      go_loopw [10, 37] (fun ov iv wr => ∃ j : Nat, j ≤ kn ∧ iv = .int .i64 (j : Int) ∧ ∃ A' c', ov = .slice A' j c' ∧ Hid (wr.ownsRow w4.heap.size 3 1 (.slice A' j c') j ((((List.range kn).map fun (x : Nat) => (x : Int)).take j).map (Value.int .i64))) ∧ Hid (Bel w4 wr)) (fun _ i _ => kn - (intOf i).toNat)
      case atStart => exact ⟨0, Nat.zero_le _, rfl, none, 0, rfl, Lib.hid (World.ownsRow_nil _ _ _ _), Lib.hid (Bel.refl _)⟩
      case round =>
        obtain ⟨j, hj, rfl, A', c', rfl, HO, HBr⟩ := hrel
        by_cases hlt : j < kn
        · have i1 : (0 : Int) ≤ (j : Int) := by omega
          have i2 : (j : Int) < (kn : Int) := by omega
          obtain ⟨i0, hi0, hz0, hz1, hz2⟩ := info_parts info_int
          go_wp2_with (at_builtin; refine stopW ?_)
          unfold StopW
          have hszr := HBr.out.size
          refine wpList_append_own_at _ rfl _ _ 22 rfl w4.heap.size 3 i0 (.int .i64 0) 1 8 Try.underlying22 hi0 hz0 hz1 hz2 rfl (by decide) (.slice A' j c') j _ rfl (HO.out.alloc _) ⟨wr.heap.size, 0, none⟩ 1 1 [.int .i64 j] rfl rfl (fun j u hu => by rw [Addr.add_lit, Nat.zero_add]; exact one_cell_at _ _ _ j u hu) (by simp [Value.oneCell']) (by unfold maxLen; omega) (by omega) (by simp; omega) ?_
          intro v' w5 hown3 hg3 _ hat3
          obtain ⟨g3, c3', rfl⟩ := ownsRow_succ hown3
          have HO3 : Hid (w5.ownsRow w4.heap.size 3 1 (.slice (some ⟨g3, 0, none⟩) (j + 1) c3') (j + 1) ((((List.range kn).map fun (x : Nat) => (x : Int)).take (j + 1)).map (Value.int .i64))) := Lib.hid (by
            rw [range_take hlt]
            exact hown3)
          have HB3' : Hid (Bel w4 w5) := Lib.hid (by
            refine ⟨hg3.os.trans HBr.out.os, hg3.tape.trans HBr.out.tape, hg3.output.trans HBr.out.output, by have := hg3.size; simp at this; omega, fun j hj => (hg3.block j (by simp; omega) (fun e => ?_)).trans ((Below.heap_alloc _ _ _ (by omega)).trans (HBr.out.block j hj))⟩
            have := (HO.out.lt j e.symm).1
            omega)
          clear hown3 hg3 hat3 i1 i2
          go_wp2_with fail
          go_roundw
          case rel => exact ⟨j + 1, by omega, by go_num, _, _, rfl, HO3, HB3'⟩
          case measure => simp [intOf]; omega
        · obtain rfl : j = kn := by omega
          have HRO := HO.out
          rw [List.take_of_length_le (by simp)] at HRO
          have HOR := Lib.hid (RI.of_own HRO)
          have hcap := own_cap HRO
          clear HRO HO
          obtain ⟨G', hGs', hGl', hP'⟩ := proj_ok j A4 A' ln4 c4 j c' ys (List.range j) HLN4.out (by omega) hcap (by
              have h := inq_may HGS.out HKL.out (by rw [← HKN.out]; omega) HT.out (by rw [← HKN.out, ← HYS.out, ← HLN4.out]; exact hl4)
              rw [← HKN.out, ← HYS.out] at h
              exact h) (S := kp.map fun v => G[v]?.getD 0) (by
              have h := (inq_sol HGS.out HKL.out HT.out).2 (let_sol HGLs.out HGS.out HKL.out)
              rw [← HKN.out, ← HYS.out] at h
              exact h) (range_keep j)
          have HP2 := Lib.hid hP'
          have HAG : Hid (∀ (L' U' : List Int) (rr : List (List Int)), TabIs ys G' (List.range j) L' U' rr → L' = L ∧ U' = U ∧ rr = listsOf rows) := Lib.hid fun L' U' rr h' => by
            rw [HYS.out] at h' hGs' hGl'
            have hk := HKN.out
            subst hk
            exact again_tab HGOOD.out HGS.out HGLs.out HKL.out HT.out hGs' hGl' h'
          clear hGs' hGl' hP'
          go_wp2_with fail
          refine (HP2.out wr (HYQ.out.bel HBr.out) HOR.out).mono ?_
          rintro e w6 ⟨LB, lcb, UB, ucb, PB, pcb, L2, U2, rows2, rfl, hL2, hU2, hP2, hrl2, hT2, hb6⟩
          obtain ⟨e1, e2, e3⟩ := HAG.out L2 U2 _ hT2
          have HE := Lib.hid (And.intro e1 (And.intro e2 e3))
          have HB6 := Lib.hid (HBr.out.on hb6)
          have HTV6 : Hid (TabV LB lcb UB ucb PB pcb j L2 U2 rows2 w6) := Lib.hid ⟨hL2, hU2, hP2, hrl2⟩
          clear hL2 hU2 hP2 hrl2 hT2 hb6 e1 e2 e3
          go_upto_region 14 with fail
          have hb7 : Bel w6 (w6.alloc (.cells #[.slice LB j lcb, .slice UB j ucb, .slice PB j pcb] 26)) := (Bel.refl w6).alloc _
          have hq7 := blk1 w6 (.cells #[.slice LB j lcb, .slice UB j ucb, .slice PB j pcb] 26)
          obtain ⟨w7, hw7⟩ : ∃ w7, w7 = w6.alloc (.cells #[.slice LB j lcb, .slice UB j ucb, .slice PB j pcb] 26) := ⟨_, rfl⟩
          obtain ⟨tz, htz⟩ : ∃ tz, tz = w6.heap.size := ⟨_, rfl⟩
          rw [← hw7] at hb7 hq7 ⊢
          rw [← htz] at hq7 ⊢
          have HB7 := Lib.hid (HB6.out.on hb7)
          have hq47 := HB7.out.blk HQ4.out
          have HTVA := Lib.hid (HTV4.out.bel HB7.out)
          have HTVB := Lib.hid (HTV6.out.bel hb7)
          have HTZ : Hid (w4.heap.size ≤ tz) := Lib.hid (by rw [htz]; exact HB6.out.size)
          have hsame : Calls Try.prog 11 #[.agg #[.slice LA j lc, .slice UA j uc, .slice PA j pc], .agg #[.slice LB j lcb, .slice UB j ucb, .slice PB j pcb]] w7 fun e w' => e = .returned (.bool true) ∧ Bel w7 w' := by
            have h := tabSame_any LA UA PA LB UB PB j lc j uc j pc j lcb j ucb j pcb L U L2 U2 rows rows2 w7 HTVA.out.1 HTVA.out.2.1 HTVA.out.2.2.1 HTVB.out.1 HTVB.out.2.1 HTVB.out.2.2.1 (by omega) (fun r hr => by have := (HTVA.out.2.2.2 r hr).1; omega) (fun r hr => by have := (HTVB.out.2.2.2 r hr).1; omega)
            have e : (decide (L = L2) && decide (U = U2) && decide (listsOf rows = listsOf rows2)) = true := by
              simp [HE.out.1, HE.out.2.1]
              exact HE.out.2.2.symm
            rw [e] at h
            exact h
          have HSAME := Lib.hid hsame
          have HQA := Lib.hid hq47
          have HQZ := Lib.hid hq7
          obtain ⟨t0, t1, t2, _, _, _⟩ := cells3 hq47
          obtain ⟨z0, z1, z2, _, _, _⟩ := cells3 hq7
          clear hw7 htz hb7 hq7 hq47 hsame HTV6 HB6
          go_wp2_with fail
          refine HSAME.out.mono ?_
          rintro e w8 ⟨rfl, hb8⟩
          have HB8 := Lib.hid (HB7.out.on hb8)
          have HQA8 := Lib.hid (hb8.blk HQA.out)
          have HQZ8 := Lib.hid (hb8.blk HQZ.out)
          have HTVA8 := Lib.hid (HTVA.out.bel hb8)
          clear hb8 t0 t1 t2 z0 z1 z2 HQA HQZ HTVA HTVB HSAME HE HAG HP2
          by_cases h0 : j = 0
          · have d0 : ((j : Int) == 0) = true := by simp [h0]
            have H0 := Lib.hid h0
            clear h0
            go_wp2_with fail
            refine (works5_any _).mono ?_
            rintro e w9 ⟨rfl, hb9⟩
            have HB := Lib.hid (HB4.out.on (HB8.out.on hb9))
            clear hb9
            go_wp2_with fail
            go_ret
            exact ⟨rfl, HB.out⟩
          · have d0 : ((j : Int) == 0) = false := by simp [h0]
            have hj1 : 1 ≤ j := by omega
            clear h0
            obtain ⟨b, off, eA, hbk, hck⟩ := HK.out.at_ hj1
            subst eA
            have i1 : (1 : Int) ≤ (j : Int) := by omega
            have i2 : (1 : Int) ≤ (kc : Int) := by omega
            have i3 : (j : Int) ≤ (kc : Int) := by omega
            have HCK := Lib.hid hck
            clear hck
            obtain ⟨m, hm⟩ : ∃ m, m = j - 1 := ⟨_, rfl⟩
            have HP3 : Hid (∀ (KT : Option Addr) (kcc : Nat), m ≤ kcc → ∀ W, RQ W W.heap.size A len xs → RI .i64 W W.heap.size KT m (kp.tail.map fun (x : Nat) => (x : Int)) → Calls Try.prog 7 #[.int .i64 N, .slice A len cap, .slice KT m kcc] W (OkPost xs G kp.tail m W)) := Lib.hid fun KT kcc hc => by
              obtain ⟨G3, hG3, hGl3, hP3⟩ := proj_ok N A KT len cap m kcc xs kp.tail HQL.out (by omega) hc HM.out HGS.out (by
                refine ⟨fun v hv => ?_, ?_⟩
                · obtain ⟨x, hx, rfl⟩ := List.mem_map.1 hv
                  have := HKL.out x (List.mem_of_mem_tail hx)
                  omega
                · exact List.Pairwise.map _ (fun a b h e => h (by omega)) (List.Nodup.sublist (List.tail_sublist kp) HND.out))
              rw [least_one hG3 HGS.out hGl3 HGLs.out] at hP3
              exact hP3
            have HKT : Hid (RI .i64 w w.heap.size (some ⟨b, off + 1, none⟩) m (kp.tail.map fun (x : Nat) => (x : Int))) := Lib.hid (by
              have h := ri_tail HK.out hj1
              rw [← List.map_tail, ← hm] at h
              exact h)
            have HB48 := Lib.hid (HB4.out.on HB8.out)
            have HMJ := Lib.hid hm
            go_wp2_with fail
            all_goals rw [← hm]
            all_goals clear hm
            · refine (HP3.out (some ⟨b, off, none⟩) 0 (by have := HMJ.out; omega) w8 (HQ.out.bel HB48.out) ⟨by have := HKT.out.1; exact this, fun h => absurd h (by have := HMJ.out; omega)⟩).mono ?_
              rintro e w9 ⟨LC, lcc, UC, ucc, PC, pcc, L3, U3, rows3, rfl, hL3, hU3, hP3, hrl3, hT3, hb9⟩
              have hz9 := hb9.blk HQZ8.out
              obtain ⟨z0, z1, z2, g0, g1, g2⟩ := cells3 hz9
              have HT9 := Lib.hid (tabs_tail HT.out hT3)
              have HTV9 : Hid (TabV LC lcc UC ucc PC pcc m L3 U3 rows3 w9) := Lib.hid ⟨hL3, hU3, hP3, hrl3⟩
              have HB9 := Lib.hid (HB8.out.on hb9)
              have hz3 := put3 (x := .slice LC m lcc) (y := .slice UC m ucc) (z := .slice PC m pcc) hz9
              have HZ9 := Lib.hid hz9
              have HZ3 := Lib.hid hz3
              clear hL3 hU3 hP3 hrl3 hT3 hb9 hz9 hz3
              go_upto_region 19 with fail
              obtain ⟨w10, hw10, hz10, hbel10, hoth10⟩ := HZ3.out
              rw [← hw10]
              have hs10 : w10.heap.size = w9.heap.size := by rw [hw10]; simp [World.setCell]
              have hb410 : Bel w4 w10 := hbel10 w4 HB9.out HTZ.out
              have HA10 : Hid (TabV LA lc UA uc PA pc j L U rows w10) := Lib.hid (HTV4.out.bel hb410)
              have HQA10 := Lib.hid (hb410.blk HQ4.out)
              have HQZ10 := Lib.hid hz10
              have HC10 : Hid (TabV LC lcc UC ucc PC pcc m L3 U3 rows3 w10) := Lib.hid ⟨ri_put hs10 hoth10 HZ9.out HTV9.out.1, ri_put hs10 hoth10 HZ9.out HTV9.out.2.1, rp_put hs10 hoth10 HZ9.out (fun r hr => by have := (HTV9.out.2.2.2 r hr).1; have := HMJ.out; omega) HTV9.out.2.2.1, HTV9.out.2.2.2⟩
              have HB10 := Lib.hid (HB4.out.on hb410)
              have hmj : (j : Int) - 1 = (m : Int) := by have := HMJ.out; omega
              obtain ⟨t0, t1, t2, _, _, _⟩ := cells3 HQA10.out
              obtain ⟨z0, z1, z2, _, _, _⟩ := cells3 HQZ10.out
              clear hw10 hz10 hbel10 hoth10 hs10 hb410 HZ3 HZ9 HTV9 HB9
              go_wp2_with fail
              go_loopw [100] (fun iv wr => ∃ q : Nat, q ≤ m ∧ iv = .int .i64 (q : Int) ∧ Hid (∃ d, wr = w10.drewN d)) (fun i _ => m - (intOf i).toNat)
              case atStart => exact ⟨0, Nat.zero_le _, rfl, Lib.hid ⟨0, rfl⟩⟩
              case round =>
                obtain ⟨q, hq, rfl, HW⟩ := hrel
                obtain ⟨d, hd⟩ := HW.out
                have HBW : Hid (Bel w10 wr) := Lib.hid (by rw [hd]; exact (Bel.refl w10).drewN d)
                clear hd t0 t1 t2 z0 z1 z2
                by_cases hlt : q < m
                · exact absurd hlt (by have := HMJ.out; omega)
                · obtain rfl : q = m := by omega
                  have HBf := Lib.hid (HB10.out.on HBW.out)
                  go_wp2_with fail
                  refine (works5_any _).mono ?_
                  rintro e w11 ⟨rfl, hb11⟩
                  have HB := Lib.hid (HBf.out.on hb11)
                  clear hb11
                  go_wp2_with fail
                  go_ret
                  exact ⟨rfl, HB.out⟩
            · refine (HP3.out (some ⟨b, off + 1, none⟩) (kc - 1) (by have := HMJ.out; omega) w8 (HQ.out.bel HB48.out) (HKT.out.bel HB48.out)).mono ?_
              rintro e w9 ⟨LC, lcc, UC, ucc, PC, pcc, L3, U3, rows3, rfl, hL3, hU3, hP3, hrl3, hT3, hb9⟩
              have hz9 := hb9.blk HQZ8.out
              obtain ⟨z0, z1, z2, g0, g1, g2⟩ := cells3 hz9
              have HT9 := Lib.hid (tabs_tail HT.out hT3)
              have HTV9 : Hid (TabV LC lcc UC ucc PC pcc m L3 U3 rows3 w9) := Lib.hid ⟨hL3, hU3, hP3, hrl3⟩
              have HB9 := Lib.hid (HB8.out.on hb9)
              have hz3 := put3 (x := .slice LC m lcc) (y := .slice UC m ucc) (z := .slice PC m pcc) hz9
              have HZ9 := Lib.hid hz9
              have HZ3 := Lib.hid hz3
              clear hL3 hU3 hP3 hrl3 hT3 hb9 hz9 hz3
              go_upto_region 19 with fail
              obtain ⟨w10, hw10, hz10, hbel10, hoth10⟩ := HZ3.out
              rw [← hw10]
              have hs10 : w10.heap.size = w9.heap.size := by rw [hw10]; simp [World.setCell]
              have hb410 : Bel w4 w10 := hbel10 w4 HB9.out HTZ.out
              have HA10 : Hid (TabV LA lc UA uc PA pc j L U rows w10) := Lib.hid (HTV4.out.bel hb410)
              have HQA10 := Lib.hid (hb410.blk HQ4.out)
              have HQZ10 := Lib.hid hz10
              have HC10 : Hid (TabV LC lcc UC ucc PC pcc m L3 U3 rows3 w10) := Lib.hid ⟨ri_put hs10 hoth10 HZ9.out HTV9.out.1, ri_put hs10 hoth10 HZ9.out HTV9.out.2.1, rp_put hs10 hoth10 HZ9.out (fun r hr => by have := (HTV9.out.2.2.2 r hr).1; have := HMJ.out; omega) HTV9.out.2.2.1, HTV9.out.2.2.2⟩
              have HB10 := Lib.hid (HB4.out.on hb410)
              have hmj : (j : Int) - 1 = (m : Int) := by have := HMJ.out; omega
              obtain ⟨t0, t1, t2, _, _, _⟩ := cells3 HQA10.out
              obtain ⟨z0, z1, z2, _, _, _⟩ := cells3 HQZ10.out
              clear hw10 hz10 hbel10 hoth10 hs10 hb410 HZ3 HZ9 HTV9 HB9
              go_wp2_with fail
              go_loopw [100] (fun iv wr => ∃ q : Nat, q ≤ m ∧ iv = .int .i64 (q : Int) ∧ Hid (∃ d, wr = w10.drewN d)) (fun i _ => m - (intOf i).toNat)
              case atStart => exact ⟨0, Nat.zero_le _, rfl, Lib.hid ⟨0, rfl⟩⟩
              case round =>
                obtain ⟨q, hq, rfl, HW⟩ := hrel
                obtain ⟨d, hd⟩ := HW.out
                have HBW : Hid (Bel w10 wr) := Lib.hid (by rw [hd]; exact (Bel.refl w10).drewN d)
                clear hd t0 t1 t2 z0 z1 z2
                by_cases hlt : q < m
                · obtain ⟨t0, t1, t2, _, _, _⟩ := cells3 (HBW.out.blk HQA10.out)
                  obtain ⟨z0, z1, z2, _, _, _⟩ := cells3 (HBW.out.blk HQZ10.out)
                  have hA := HA10.out.bel HBW.out
                  have hC := HC10.out.bel HBW.out
                  obtain ⟨bL, oL, eA, hbL, hcL⟩ := hA.1.at_ (by omega)
                  subst eA
                  obtain ⟨bU, oU, eA, hbU, hcU⟩ := hA.2.1.at_ (by omega)
                  subst eA
                  obtain ⟨bP, oP, eA, hbP, hcP⟩ := hA.2.2.1.2 (by omega)
                  subst eA
                  obtain ⟨bM, oM, eA, hbM, hcM⟩ := hC.1.at_ (by omega)
                  subst eA
                  obtain ⟨bV, oV, eA, hbV, hcV⟩ := hC.2.1.at_ (by omega)
                  subst eA
                  obtain ⟨bQ, oQ, eA, hbQ, hcQ⟩ := hC.2.2.1.2 (by omega)
                  subst eA
                  have hqj : q + 1 < j := by have := HMJ.out; omega
                  obtain ⟨r, hr⟩ : ∃ r, rows[q + 1]? = some r := ⟨_, List.getElem?_eq_getElem (by have := hA.2.2.1.1; omega)⟩
                  obtain ⟨r3, hr3⟩ : ∃ r3, rows3[q]? = some r3 := ⟨_, List.getElem?_eq_getElem (by have := hC.2.2.1.1; omega)⟩
                  obtain ⟨RA, rn, rc, rl⟩ := r
                  obtain ⟨RB, sn, sc, sl⟩ := r3
                  have hrm := hA.2.2.2 _ (List.mem_of_getElem? hr)
                  have hsm := hC.2.2.2 _ (List.mem_of_getElem? hr3)
                  simp only at hrm hsm
                  obtain ⟨hrn, hrc⟩ := hrm
                  obtain ⟨hsn, hsc⟩ := hsm
                  obtain ⟨p0, hRl, _⟩ := hcP (q + 1) _ hr
                  obtain ⟨s0, hSl, _⟩ := hcQ q _ hr3
                  simp only at p0 s0 hRl hSl
                  have a0 := hcL (q + 1) hqj
                  have b0 := hcU (q + 1) hqj
                  have a3 := hcM q hlt
                  have b3 := hcV q hlt
                  obtain ⟨eL, eU, eR⟩ := HT9.out
                  have xL : L3[q]?.getD 0 = L[q + 1]?.getD 0 := by rw [eL, List.getElem?_tail]
                  have xU : U3[q]?.getD 0 = U[q + 1]?.getD 0 := by rw [eU, List.getElem?_tail]
                  have xR : sl = rl.tail := by
                    have e1 : (rows3.map fun r => r.2.2.2)[q]? = ((rows.map fun r => r.2.2.2).tail.map List.tail)[q]? := by rw [eR]
                    rw [List.getElem?_map, hr3, List.getElem?_map, List.getElem?_tail, List.getElem?_map, hr] at e1
                    simpa using e1
                  rw [xL] at a3
                  rw [xU] at b3
                  generalize L[q + 1]?.getD 0 = x1 at a0 a3
                  generalize U[q + 1]?.getD 0 = x2 at b0 b3
                  rw [hrn] at p0 hRl
                  rw [hsn] at s0 hSl
                  obtain ⟨bR, oR, eA, hbR, hcR⟩ := hRl.at_ (by omega)
                  subst eA
                  have HEQ : Hid (∀ W, Bel wr W → ∀ (c d : Nat), Calls Try.prog 26 #[.slice RB m c, .slice (some ⟨bR, oR + 1, none⟩) (j - 1) d] W fun e w' => e = .returned (.bool true) ∧ ∃ n, w' = W.drewN n) := Lib.hid fun W hW c d => by
                    rw [← HMJ.out]
                    refine mequal_quiet _ _ m c d sl W (hSl.bel hW) ?_ (by omega)
                    have h := ri_tail (hRl.bel hW) (by omega)
                    rw [← xR, ← HMJ.out] at h
                    exact h
                  have i1 : (0 : Int) ≤ (q : Int) := by omega
                  have i2 : (q : Int) < (m : Int) := by omega
                  have i3 : (0 : Int) ≤ (q : Int) + 1 := by omega
                  have i4 : (q : Int) + 1 < (j : Int) := by omega
                  have i5 : (1 : Int) ≤ (j : Int) := by omega
                  have i6 : (1 : Int) ≤ (rc : Int) := by omega
                  have i7 : (j : Int) ≤ (rc : Int) := by omega
                  have i8 : ¬ rc - 1 = 0 := by omega
                  have i9 : ¬ rc = 1 := by omega
                  clear hA hC hcL hcU hcP hcM hcV hcQ hRl hSl hcR xL xU xR eL eU eR hr hr3 hrn hsn
                  go_wp2_with fail
                  go_quiet ((go_at_call 26; exact Calls.quiet_of (HEQ.out _ ((Bel.refl wr).drewN _) _ _)))
                  go_wp2_with fail
                  go_roundw
                  case rel => exact ⟨q + 1, by omega, by go_num, Lib.hid (by obtain ⟨d, hd⟩ := HW.out; exact ⟨_, by rw [hd, World.drewN_drewN]⟩)⟩
                  case measure => simp [intOf]; omega
                · obtain rfl : q = m := by omega
                  have HBf := Lib.hid (HB10.out.on HBW.out)
                  go_wp2_with fail
                  refine (works5_any _).mono ?_
                  rintro e w11 ⟨rfl, hb11⟩
                  have HB := Lib.hid (HBf.out.on hb11)
                  clear hb11
                  go_wp2_with fail
                  go_ret
                  exact ⟨rfl, HB.out⟩
end Go.Proofs.Ytlbachjhhjjmfaa.Mu

