/-
  ElimKnown, walked.
-/
import Derived.Test.YtlbachjhhjjmfaaElimW
import Derived.Test.YtlbachjhhjjmfaaElimKnownR
namespace Go.Proofs.Ytlbachjhhjjmfaa.Mu
open Go.ChangeShapes Go.WideShapes Go.ChangeAt Go.RowKit Go.Shelf

attribute [local go_sem] Oper.semAt_some

theorem rq_lit (w : World) (g : Nat) (t : TypeId) (xs : List Iq) (cs : Array Value) (h : w.heap[g]? = some (.cells cs t (0, 0))) (hcs : cs.toList = flatI xs) : RQ w w.heap.size (some ⟨g, 0, none⟩) xs.length xs :=
  RQ.of_flat rfl (Array.getElem?_eq_some_iff.1 h).1 (fun j u hu => by
    rw [← hcs] at hu
    simp [World.cell?, h]
    simpa using hu)
theorem proj_clash (n : Nat) (A KA : Option Addr) (len cap kn kc : Nat) (xs : List Iq) (keep : List Int) (hlen : len = xs.length) (hkn : kn ≤ 150) (hkc : kn ≤ kc) (hm : mayF n [] xs = 0) (hno : ∀ S, ¬ SolQ n xs S) (w : World) (hq : RQ w w.heap.size A len xs) (hK : RI .i64 w w.heap.size KA kn keep) :
    Calls Try.prog 7 #[.int .i64 n, .slice A len cap, .slice KA kn kc] w (ErrPost 40 w) := by
  obtain ⟨T, hT, hC⟩ := project_good n A KA len cap kn kc xs keep hlen hkn hkc hm
  obtain ⟨i, hi⟩ := tells_some hT hno
  refine (hC w hq hK).mono fun e w' h => ?_
  unfold ProjPost at h
  rw [if_neg (by simp [hm]), hi] at h
  exact h
theorem proj_arg (n : Nat) (A KA : Option Addr) (len cap kn kc : Nat) (xs : List Iq) (keep : List Int) (hlen : len = xs.length) (hkn : kn ≤ 150) (hkc : kn ≤ kc) (hm : mayF n [] xs = 0) {S : List Int} (hS : SolQ n xs S) (hk : ¬ KeepOk n keep) (w : World) (hq : RQ w w.heap.size A len xs) (hK : RI .i64 w w.heap.size KA kn keep) :
    Calls Try.prog 7 #[.int .i64 n, .slice A len cap, .slice KA kn kc] w (ErrPost 2 w) := by
  obtain ⟨T, hT, hC⟩ := project_good n A KA len cap kn kc xs keep hlen hkn hkc hm
  have hn := tells_none hT hS
  refine (hC w hq hK).mono fun e w' h => ?_
  unfold ProjPost at h
  rw [if_neg (by simp [hm]), hn] at h
  simp only [if_neg hk] at h
  exact h
theorem mk_151 (W : World) : (Instr.makeSlice 22 (.int .i64 151) (.int .i64 151)).run Try.prog W = .ok (.slice (some ⟨W.heap.size, 0, none⟩) 151 151) (W.alloc (.cells (madeCells #[.int .i64 0] 151) 3)) :=
  run_make_row' (P := Try.prog) 22 3 (.int .i64 0) 8 Try.underlying22 info_i64' rfl .i64 .i64 151 (by omega) (by omega) W
set_option maxRecDepth 100000 in
set_option maxHeartbeats 4000000 in
theorem elimKnown_any (w : World) : Calls Try.prog 3 #[] w fun e w' => e = .returned (.bool true) ∧ Bel w w' := by
  have HMK := Lib.hid mk_151
  go_enter Try.func3, Try.ntmps3
  go_wp2_with fail
  have hb0 : Bel w (w.alloc (.cells #[.int .i64 0, .int .i64 2] 3)) := (Bel.refl w).alloc _
  have hk0 := ri_ik2 (w.alloc (.cells #[.int .i64 0, .int .i64 2] 3)) w.heap.size 0 2 3 (blk1 w _)
  obtain ⟨w0, hw0⟩ : ∃ w0, w0 = w.alloc (.cells #[.int .i64 0, .int .i64 2] 3) := ⟨_, rfl⟩
  rw [← hw0] at hb0 hk0 ⊢
  have HB0 := Lib.hid hb0
  have HK0 := Lib.hid hk0
  clear hw0 hb0 hk0
  refine (eAbove_any _ _ _).mono ?_
  rintro e w1 ⟨rfl, hb⟩
  have HB1 := Lib.hid hb
  clear hb
  go_wp2_with fail
  refine (eBelow_any _ _ _ _).mono ?_
  rintro e w2 ⟨rfl, hb⟩
  have HB2 := Lib.hid (HB1.out.on hb)
  clear hb
  go_wp2_with fail
  refine (eBelow_any _ _ _ _).mono ?_
  rintro e w3 ⟨rfl, hb⟩
  have HB3 := Lib.hid (HB2.out.on hb)
  clear hb
  go_wp2_with fail
  obtain ⟨G, hG, hGl, hP⟩ := proj_ok 4 (some ⟨w3.heap.size, 0, none⟩) (some ⟨w.heap.size, 0, none⟩) 3 3 2 2 exA [0, 2] rfl (by omega) (by omega) rfl (S := [2, 2, 2, 1]) (sol_lit _ _ _ (by decide)) keep02
  refine (hP _ (rq_lit _ _ _ exA _ (blk1 w3 _) rfl) (HK0.out.bel (HB3.out.alloc _))).mono ?_
  rintro e w4 ⟨LA, lc, UA, uc, PA, pc, L, U, rows, rfl, hL, hU, hPr, hrl, hT, hb⟩
  obtain ⟨rfl, rfl, hrows⟩ := exA_tab hG hGl hT
  have HB4 := Lib.hid ((HB3.out.alloc _).on hb)
  have HTA : Hid (TabV LA lc UA uc PA pc 2 [2, 2] [3, 3] rows w4) := Lib.hid ⟨hL, hU, hPr, hrl⟩
  have HRA := Lib.hid hrows
  clear hG hGl hP hL hU hPr hrl hT hb hrows
  go_wp2_with fail
  have hb4 : Bel w4 (w4.alloc (.cells #[.slice LA 2 lc, .slice UA 2 uc, .slice PA 2 pc] 26)) := (Bel.refl w4).alloc _
  have hq4 := blk1 w4 (.cells #[.slice LA 2 lc, .slice UA 2 uc, .slice PA 2 pc] 26)
  obtain ⟨ta, hta⟩ : ∃ ta, ta = w4.heap.size := ⟨_, rfl⟩
  obtain ⟨w5, hw5⟩ : ∃ w5, w5 = w4.alloc (.cells #[.slice LA 2 lc, .slice UA 2 uc, .slice PA 2 pc] 26) := ⟨_, rfl⟩
  rw [← hw5] at hb4 hq4 ⊢
  rw [← hta] at hq4 ⊢
  have HQA := Lib.hid hq4
  have HB5 := Lib.hid (HB4.out.on hb4)
  have HTA5 := Lib.hid (HTA.out.bel hb4)
  clear hw5 hta hq4 hb4 HTA
  refine (eBelow_any _ _ _ _).mono ?_
  rintro e w6 ⟨rfl, hb⟩
  have HB6 := Lib.hid hb
  clear hb
  go_wp2_with fail
  refine (eBelow_any _ _ _ _).mono ?_
  rintro e w7 ⟨rfl, hb⟩
  have HB7 := Lib.hid (HB6.out.on hb)
  clear hb
  go_wp2_with fail
  obtain ⟨G, hG, hGl, hP⟩ := proj_ok 4 (some ⟨w7.heap.size, 0, none⟩) (some ⟨w.heap.size, 0, none⟩) 2 2 2 2 exB [0, 2] rfl (by omega) (by omega) rfl (S := [1, 1, 1, 1]) (sol_lit _ _ _ (by decide)) keep02
  refine (hP _ (rq_lit _ _ _ exB _ (blk1 w7 _) rfl) (HK0.out.bel ((HB5.out.on HB7.out).alloc _))).mono ?_
  rintro e w8 ⟨LB, lcb, UB, ucb, PB, pcb, L, U, rowsB, rfl, hL, hU, hPr, hrl, hT, hb⟩
  obtain ⟨rfl, rfl, hrows⟩ := exB_tab hG hGl hT
  have HB8 := Lib.hid ((HB7.out.alloc _).on hb)
  have HTB : Hid (TabV LB lcb UB ucb PB pcb 2 [1, 1] [3, 2] rowsB w8) := Lib.hid ⟨hL, hU, hPr, hrl⟩
  have HRB := Lib.hid hrows
  clear hG hGl hP hL hU hPr hrl hT hb hrows
  go_wp2_with fail
  have hb9 : Bel w8 (w8.alloc (.cells #[.slice LB 2 lcb, .slice UB 2 ucb, .slice PB 2 pcb] 26)) := (Bel.refl w8).alloc _
  have hq9 := blk1 w8 (.cells #[.slice LB 2 lcb, .slice UB 2 ucb, .slice PB 2 pcb] 26)
  obtain ⟨tb, htb⟩ : ∃ tb, tb = w8.heap.size := ⟨_, rfl⟩
  obtain ⟨w9, hw9⟩ : ∃ w9, w9 = w8.alloc (.cells #[.slice LB 2 lcb, .slice UB 2 ucb, .slice PB 2 pcb] 26) := ⟨_, rfl⟩
  rw [← hw9] at hb9 hq9 ⊢
  rw [← htb] at hq9 ⊢
  have HQB := Lib.hid hq9
  have HB9 := Lib.hid (HB8.out.on hb9)
  have HTB9 := Lib.hid (HTB.out.bel hb9)
  clear hw9 htb hq9 hb9 HTB
  refine (eAbove_any _ _ _).mono ?_
  rintro e w10 ⟨rfl, hb⟩
  have HB10 := Lib.hid hb
  clear hb
  go_wp2_with fail
  refine (eBelow_any _ _ _ _).mono ?_
  rintro e w11 ⟨rfl, hb⟩
  have HB11 := Lib.hid (HB10.out.on hb)
  clear hb
  go_wp2_with fail
  refine (proj_clash 4 _ _ 2 2 2 2 exC _ rfl (by omega) (by omega) rfl exC_no _ (rq_lit _ _ _ exC _ (blk1 w11 _) rfl) (HK0.out.bel ((HB5.out.on (HB9.out.on HB11.out)).alloc _))).mono ?_
  rintro e w12 ⟨rfl, hb⟩
  have HB12 := Lib.hid ((HB11.out.alloc _).on hb)
  clear hb
  have hmk := HMK.out
  go_wp2_with fail
  clear hmk
  refine (project_long 2 none _ 0 0 151 151 _ (by omega)).mono ?_
  rintro e w13 ⟨rfl, hb⟩
  have HB13 := Lib.hid (HB12.out.on ((((Bel.refl w12).alloc _).alloc _).on hb))
  clear hb
  go_wp2_with fail
  have hkk := ri_ik2 ((w13.alloc (.cells #[.slice none 0 0, .slice none 0 0, .slice none 0 0] 26)).alloc (.cells #[.int .i64 1, .int .i64 1] 3)) (w13.heap.size + 1) 1 1 3 (by
    have := blk1 (w13.alloc (.cells #[.slice none 0 0, .slice none 0 0, .slice none 0 0] 26)) (.cells #[.int .i64 1, .int .i64 1] 3)
    rwa [World.size_alloc] at this)
  refine (proj_arg 2 none _ 0 0 2 2 [] [1, 1] rfl (by omega) (by omega) rfl (S := [1, 1]) (sol_lit _ _ _ (by decide)) (by decide) _ RQ.nil_ hkk).mono ?_
  rintro e w14 ⟨rfl, hb⟩
  have HB14 := Lib.hid (HB13.out.on ((((Bel.refl w13).alloc _).alloc _).on hb))
  clear hb hkk
  go_wp2_with fail
  have hbz : Bel w14 (w14.alloc (.cells #[.slice none 0 0, .slice none 0 0, .slice none 0 0] 26)) := (Bel.refl w14).alloc _
  obtain ⟨wz, hwz⟩ : ∃ wz, wz = w14.alloc (.cells #[.slice none 0 0, .slice none 0 0, .slice none 0 0] 26) := ⟨_, rfl⟩
  rw [← hwz] at hbz ⊢
  have h9z : Bel w9 wz := HB14.out.on hbz
  have h5z : Bel w5 wz := HB9.out.on h9z
  have HZ : Hid (Bel w wz) := Lib.hid (HB0.out.on (HB5.out.on h5z))
  have hqa := h5z.blk HQA.out
  have hqb := h9z.blk HQB.out
  obtain ⟨a0, a1, a2, _, _, _⟩ := cells3 hqa
  obtain ⟨b0, b1, b2, _, _, _⟩ := cells3 hqb
  have hla : ta < wz.heap.size := (Array.getElem?_eq_some_iff.1 hqa).1
  have hlb : tb < wz.heap.size := (Array.getElem?_eq_some_iff.1 hqb).1
  have HVA := Lib.hid (HTA5.out.bel h5z)
  have HVB := Lib.hid (HTB9.out.bel h9z)
  clear hwz hbz h9z h5z hqa hqb HTA5 HTB9 HB14
  refine regK_any LA UA PA LB UB PB lc uc pc lcb ucb pcb rows rowsB ta tb wz HVA.out HVB.out HRA.out HRB.out a0 a1 a2 b0 b1 b2 hla hlb _ ?_
  intro V w' hb hv
  have HBF := Lib.hid (HZ.out.on ((Bel.refl wz).drew.on hb))
  simp only [regK, List.drop_succ_cons, List.drop_zero, actK, hv]
  clear hb hv a0 a1 a2 b0 b1 b2
  go_wp2_with fail
  go_ret
  exact ⟨rfl, HBF.out⟩
end Go.Proofs.Ytlbachjhhjjmfaa.Mu

