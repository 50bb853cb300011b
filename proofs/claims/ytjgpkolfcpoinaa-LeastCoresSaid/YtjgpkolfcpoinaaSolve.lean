/-
  Solve, walked: what it answers, as functions of lists.
-/
import Derived.Test.YtjgpkolfcpoinaaLeastMay
namespace Go.Proofs.Ytjgpkolfcpoinaa.Mu
open Go.ChangeShapes Go.WideShapes Go.ChangeAt Go.RowKit Go.Shelf

attribute [local go_sem] Oper.semAt_some

/-- The tables of next and first. -/
abbrev tabF (n len : Nat) (xs : List Iq) : List Int := (foldFN n len (backL xs len)).1
abbrev tabN (n len : Nat) (xs : List Iq) : List Int := (foldFN n len (backL xs len)).2
def low0 (n : Nat) (low : List Int) : List Int := if low.length = 0 then List.replicate n 1 else low
def run2 (n : Nat) (low : List Int) (xs : List Iq) (R : Nat → List Nat) : Option Nat × List Int × List Int := raiseF xs n 2 R (low0 n low) (List.replicate n 0)
def run3 (n : Nat) (low : List Int) (xs : List Iq) (R : Nat → List Nat) : Option Nat × List Int × List Int := raiseF xs n 3 R (run2 n low xs R).2.1 (run2 n low xs R).2.2

def SolvedPost (n : Nat) (G : List Int) (w : World) (e : Ending) (w' : World) : Prop :=
  ∃ ga, e = .returned (.tuple #[.slice (some ⟨ga, 0, none⟩) n n, .slice none 0 0, .int .i64 0]) ∧ Arr .u8 w' ga 27 G ∧ w.heap.size ≤ ga ∧ Bel w w'
def ClashPost (ws : List Nat) (w : World) (e : Ending) (w' : World) : Prop :=
  ∃ B A c, w.heap.size ≤ B ∧ e = .returned (.tuple #[.slice none 0 0, .slice A ws.length c, .int .i64 40]) ∧ w'.ownsRow B 3 1 (.slice A ws.length c) ws.length (((ints ws).mergeSort fun x y => decide (x ≤ y)).map (Value.int .i64)) ∧ Bel w w'

def SolvePost (T : Option Nat × List Int × List Int) (n : Nat) (ws : List Nat) (w : World) (e : Ending) (w' : World) : Prop :=
  match T.1 with
  | none => SolvedPost n T.2.1 w e w'
  | some i => ClashPost (i :: ws) w e w'

theorem solve_no (n : Int) (G A : Option Addr) (ln lk len cap : Nat) (low : List Int) (xs : List Iq) (w : World) (hg : RI .u8 w w.heap.size G ln low) (hq : RQ w w.heap.size A len xs) (hlm : ln ≤ 9223372036854775807) (hm : mayF n low xs ≠ 0) :
    Calls Try.prog 12 #[.int .i64 n, .slice G ln lk, .slice A len cap] w fun e w' => e = .returned (.tuple #[.slice none 0 0, .slice none 0 0, .int .i64 (mayF n low xs)]) ∧ Bel w w' := by
  obtain ⟨r, hr⟩ : ∃ r, r = mayF n low xs := ⟨_, rfl⟩
  rw [← hr] at hm ⊢
  have hc := lmay_any n G A ln lk len cap low xs w hg hq hlm
  rw [← hr] at hc
  have HC := Lib.hid hc
  clear hc hr hg hq
  go_enter Try.func12, Try.ntmps12
  go_wp2_with fail
  refine HC.out.mono ?_
  rintro e w2 ⟨rfl, hb2⟩
  go_wp2
  refine bodyPost_ret (results_tmp3 rfl _ _ _) rfl ?_
  exact ⟨rfl, hb2⟩

set_option maxRecDepth 100000 in
set_option maxHeartbeats 2000000 in
theorem solve_yes (n : Nat) (G A : Option Addr) (ln lk len cap : Nat) (low : List Int) (xs : List Iq) (R : Nat → List Nat) (w : World) (hg : RI .u8 w w.heap.size G ln low) (hq : RQ w w.heap.size A len xs) (hn : n ≤ 1048576) (hl : len ≤ 1048576) (hln : ln = 0 ∨ ln = n) (hm : mayF n low xs = 0)
    (hv : ∀ x ∈ xs, x.m = 0 → 0 ≤ x.v ∧ x.v < n) (hok : OkR n xs) (hR : ∀ v, v < n → Chain (tabN n len xs) ((tabF n len xs)[v]?.getD 0) (R v)) (T : Option Nat × List Int × List Int) (ws : List Nat)
    (hT : T = if (run2 n low xs R).1 = none then run3 n low xs R else run2 n low xs R) (hws : ∀ i, T.1 = some i → ws.length ≤ 1048576 ∧ Way xs T.2.2 i ws) :
    Calls Try.prog 12 #[.int .i64 n, .slice G ln lk, .slice A len cap] w (SolvePost T n ws w) := by
  have hlm : ln ≤ 9223372036854775807 := by omega
  have hc := lmay_any n G A ln lk len cap low xs w hg hq hlm
  rw [hm] at hc
  have HC := Lib.hid hc
  have HG := Lib.hid hg
  have HQ := Lib.hid hq
  have HV := Lib.hid hv
  have HOK := Lib.hid hok
  have HR := Lib.hid hR
  have HT := Lib.hid hT
  have HWS := Lib.hid hws
  have HN := Lib.hid hn
  have HL := Lib.hid hl
  have HLN := Lib.hid hln
  clear hc hg hq hv hok hR hT hws hm hln
  go_enter Try.func12, Try.ntmps12
  go_wp2_with fail
  refine HC.out.mono ?_
  rintro e w1 ⟨rfl, hb1⟩
  have HB1 := Lib.hid hb1
  clear hb1
  go_wp2_with fail
  refine (newSolver_any n len cap G A ln lk low xs HN.out HL.out w1 (HG.out.bel HB1.out) HLN.out (HQ.out.bel HB1.out) HV.out).mono ?_
  rintro e w2 ⟨s, gf, gn, ga, gb, gc, rfl, hd, hsol, hch, hb2⟩
  obtain ⟨k, hk⟩ : ∃ k : Bk, k = ⟨w1.heap.size, s, gf, gn, ga, gb, gc, A, len, cap, n⟩ := ⟨_, rfl⟩
  have hst : St w2 k xs (tabF n len xs) (tabN n len xs) (low0 n low) (List.replicate n 0) [] := by
    rw [hk]
    have hfl := fold_len n len (backL xs len)
    refine ⟨hd, hsol, ⟨0, 0, hch⟩, (HQ.out.bel HB1.out).keep fun b o hlt => hb2.cell (p := ⟨b, o, none⟩) hlt, hfl.1, hfl.2, ?_, by simp⟩
    unfold low0
    split
    · simp
    · rename_i h0
      have h1 := HG.out.len
      rcases HLN.out with h | h
      · omega
      · show low.length = n; omega
  have HST := Lib.hid hst
  have HB2 := Lib.hid hb2
  have HKB : Hid (k.base = w1.heap.size ∧ k.n = n ∧ k.len = len ∧ k.s = s) := Lib.hid (by rw [hk]; exact ⟨rfl, rfl, rfl, rfl⟩)
  have e3 := HKB.out.2.2.2
  rw [← e3]
  clear hst hb2 hd hsol hch hk e3
  go_wp2_with fail
  go_loopw [11] (fun mv wr => ((mv = .int .u8 2 ∧ Hid (St wr k xs (tabF n len xs) (tabN n len xs) (low0 n low) (List.replicate n 0) [])) ∨ (mv = .int .u8 3 ∧ Hid ((run2 n low xs R).1 = none) ∧ Hid (St wr k xs (tabF n len xs) (tabN n len xs) ((run2 n low xs R).2.1) ((run2 n low xs R).2.2) [])) ∨ (mv = .int .u8 4 ∧ Hid ((run2 n low xs R).1 = none) ∧ Hid ((run3 n low xs R).1 = none) ∧ Hid (St wr k xs (tabF n len xs) (tabN n len xs) (run3 n low xs R).2.1 (run3 n low xs R).2.2 []))) ∧ Hid (Below k.base w2 wr))
    (fun mv _ => (5 - intOf mv).toNat)
  case atStart => exact ⟨.inl ⟨rfl, HST⟩, Lib.hid (Below.refl _ _)⟩
  case round =>
    obtain ⟨⟨rfl, HS⟩ | ⟨rfl, H2, HS⟩ | ⟨rfl, H2, H3, HS⟩, HBR⟩ := hrel
    · have hrz := raise_any k xs (tabF n len xs) (tabN n len xs) (low0 n low) (List.replicate n 0) 2 R (by rw [HKB.out.2.2.1]; exact HL.out) (by rw [HKB.out.2.1]; exact HN.out) (by rw [HKB.out.2.1]; exact HOK.out) (by rw [HKB.out.2.1]; exact HR.out) wr HS.out
      have ez : raiseF xs k.n 2 R (low0 n low) (List.replicate n 0) = run2 n low xs R := by rw [HKB.out.2.1]; rfl
      rw [ez] at hrz
      have HRZ := Lib.hid hrz
      clear hrz ez
      go_wp2_with fail
      refine HRZ.out.mono ?_
      rintro e w3 ⟨rfl, ⟨Q', hQ, hs3⟩, hb3⟩
      have HB3 := Lib.hid (HBR.out.trans hb3)
      cases ht : (run2 n low xs R).1 with
      | none =>
        rw [hQ ht] at hs3
        have HS3 := Lib.hid hs3
        have HT3 := Lib.hid ht
        clear hs3 hb3 hQ ht
        simp only [retZ]
        go_wp2
        go_roundw
        case rel => exact ⟨.inr (.inl ⟨rfl, HT3, HS3⟩), HB3⟩
        case measure => simp [intOf]
      | some i =>
        have hT : T = run2 n low xs R := by
          rw [HT.out]
          rw [if_neg (by rw [ht]; simp)]
        have hT1 : T.1 = some i := by rw [hT, ht]
        obtain ⟨hw1, hw2⟩ := HWS.out i hT1
        rw [hT] at hw2
        have HW2 := Lib.hid hw2
        have HS3 := Lib.hid hs3
        have HT1 := Lib.hid hT1
        have HWL := Lib.hid hw1
        clear hs3 hb3 hQ ht hT hT1 hw1 hw2
        simp only [retZ]
        have n1 : ¬ ((i : Int) = -1) := by omega
        go_wp2_with fail
        refine (core_any k xs (tabF n len xs) (tabN n len xs) _ _ Q' i ws (by rw [HKB.out.2.2.1]; exact HL.out) (by rw [HKB.out.2.1]; exact HN.out) HWL.out HW2.out w3 HS3.out).mono ?_
        rintro e w4 ⟨A4, c4, rfl, ho4, hb4⟩
        have HO4 := Lib.hid ho4
        have HB4 := Lib.hid hb4
        clear ho4 hb4
        go_wp2
        refine bodyPost_ret (results_tmp3 rfl _ _ _) rfl ?_
        unfold SolvePost
        rw [HT1.out]
        have hbw3 : Bel w w3 := HB1.out.on (HB2.out.trans (by have h := HB3.out; rw [HKB.out.1] at h; exact h))
        exact ⟨w3.heap.size, A4, c4, hbw3.size, rfl, HO4.out, hbw3.on HB4.out⟩
    · have hrz := raise_any k xs (tabF n len xs) (tabN n len xs) ((run2 n low xs R).2.1) ((run2 n low xs R).2.2) 3 R (by rw [HKB.out.2.2.1]; exact HL.out) (by rw [HKB.out.2.1]; exact HN.out) (by rw [HKB.out.2.1]; exact HOK.out) (by rw [HKB.out.2.1]; exact HR.out) wr HS.out
      have ez : raiseF xs k.n 3 R ((run2 n low xs R).2.1) ((run2 n low xs R).2.2) = run3 n low xs R := by rw [HKB.out.2.1]; rfl
      rw [ez] at hrz
      have HRZ := Lib.hid hrz
      clear hrz ez
      go_wp2_with fail
      refine HRZ.out.mono ?_
      rintro e w3 ⟨rfl, ⟨Q', hQ, hs3⟩, hb3⟩
      have HB3 := Lib.hid (HBR.out.trans hb3)
      cases ht : (run3 n low xs R).1 with
      | none =>
        rw [hQ ht] at hs3
        have HS3 := Lib.hid hs3
        have HT3 := Lib.hid ht
        clear hs3 hb3 hQ ht
        simp only [retZ]
        go_wp2
        go_roundw
        case rel => exact ⟨.inr (.inr ⟨rfl, H2, HT3, HS3⟩), HB3⟩
        case measure => simp [intOf]
      | some i =>
        have hT : T = run3 n low xs R := by
          rw [HT.out]
          rw [if_pos H2.out]
        have hT1 : T.1 = some i := by rw [hT, ht]
        obtain ⟨hw1, hw2⟩ := HWS.out i hT1
        rw [hT] at hw2
        have HW2 := Lib.hid hw2
        have HS3 := Lib.hid hs3
        have HT1 := Lib.hid hT1
        have HWL := Lib.hid hw1
        clear hs3 hb3 hQ ht hT hT1 hw1 hw2
        simp only [retZ]
        have n1 : ¬ ((i : Int) = -1) := by omega
        go_wp2_with fail
        refine (core_any k xs (tabF n len xs) (tabN n len xs) _ _ Q' i ws (by rw [HKB.out.2.2.1]; exact HL.out) (by rw [HKB.out.2.1]; exact HN.out) HWL.out HW2.out w3 HS3.out).mono ?_
        rintro e w4 ⟨A4, c4, rfl, ho4, hb4⟩
        have HO4 := Lib.hid ho4
        have HB4 := Lib.hid hb4
        clear ho4 hb4
        go_wp2
        refine bodyPost_ret (results_tmp3 rfl _ _ _) rfl ?_
        unfold SolvePost
        rw [HT1.out]
        have hbw3 : Bel w w3 := HB1.out.on (HB2.out.trans (by have h := HB3.out; rw [HKB.out.1] at h; exact h))
        exact ⟨w3.heap.size, A4, c4, hbw3.size, rfl, HO4.out, hbw3.on HB4.out⟩
    · have q3 : wr.cell? ⟨k.s, 3, none⟩ = some (.slice (some ⟨k.ga, 0, none⟩) k.n k.n) := by simp [World.cell?, HS.out.sol.hs, cellsS]
      rw [HKB.out.2.1] at q3
      go_wp2
      refine bodyPost_ret (results_tmp3 rfl _ _ _) rfl ?_
      have hT : T = run3 n low xs R := by rw [HT.out, if_pos H2.out]
      have hT1 : T.1 = none := by rw [hT]; exact H3.out
      unfold SolvePost
      rw [hT1, hT]
      have hbw : Bel w wr := HB1.out.on (HB2.out.trans (by have h := HBR.out; rw [HKB.out.1] at h; exact h))
      exact ⟨k.ga, rfl, HS.out.sol.ha, (by have h1 := HS.out.d.1.2.2.2.1; rw [HKB.out.1] at h1; exact Nat.le_trans HB1.out.size h1), hbw⟩
end Go.Proofs.Ytjgpkolfcpoinaa.Mu

