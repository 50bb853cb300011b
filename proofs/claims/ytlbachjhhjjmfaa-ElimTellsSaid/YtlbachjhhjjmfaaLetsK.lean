/-
  Lets: whether a table lets an assignment be.
  Same: whether all of two tables is the same.
  mayKeep: whether these are variables, no two the same.
-/
import Derived.Test.YtlbachjhhjjmfaaAsks
import Derived.Test.YtlbachjhhjjmfaaLeastG
import Derived.Test.YtlbachjhhjjmfaaSolveA
namespace Go.Proofs.Ytlbachjhhjjmfaa.Mu
open Go.ChangeShapes Go.WideShapes Go.ChangeAt Go.RowKit Go.Shelf

attribute [local go_sem] Oper.semAt_some

def rowL (rows : List (Option Addr × Nat × Nat × List Int)) (i : Nat) : List Int := (rows[i]?.map fun r => r.2.2.2).getD []
/-- What a table asks of place i. -/
def LetsAt (L U : List Int) (rows : List (Option Addr × Nat × Nat × List Int)) (g : List Int) (i : Nat) : Prop := L[i]?.getD 0 ≤ g[i]?.getD 0 ∧ g[i]?.getD 0 ≤ U[i]?.getD 0 ∧ ∀ j, j < g.length → g[i]?.getD 0 ≤ max ((rowL rows i)[j]?.getD 0) (g[j]?.getD 0)
def LetsP (L U : List Int) (rows : List (Option Addr × Nat × Nat × List Int)) (g : List Int) : Prop := mayTab L U rows = 0 ∧ g.length = L.length ∧ ∀ i, i < g.length → LetsAt L U rows g i
theorem may_zero {L U : List Int} {rows : List (Option Addr × Nat × Nat × List Int)} (h : mayTab L U rows = 0) : L.length ≤ 150 ∧ U.length = L.length ∧ rows.length = L.length ∧ ∀ r ∈ rows, r.2.2.2.length = L.length := by
  unfold mayTab at h
  by_cases h1 : 150 < L.length ∨ 150 < U.length ∨ 150 < rows.length
  · rw [if_pos h1] at h; cases h
  rw [if_neg h1] at h
  by_cases h2 : rows.length ≠ L.length ∨ areM L.length L = false ∨ areM L.length U = false
  · rw [if_pos h2] at h; cases h
  rw [if_neg h2] at h
  have hl : ∀ l : List Int, areM L.length l = true → l.length = L.length := fun l hl => by
    unfold areM at hl
    simp at hl
    omega
  have hu : areM L.length U = true := by
    cases e : areM L.length U with
    | true => rfl
    | false => exact absurd (.inr (.inr e)) h2
  refine ⟨by omega, hl U hu, by omega, fun r hr => hl _ ?_⟩
  cases e : areM L.length r.2.2.2 with
  | true => rfl
  | false => rw [if_pos (List.any_eq_true.2 ⟨r, hr, by rw [e]; rfl⟩)] at h; cases h

def LetsPost (L U : List Int) (rows : List (Option Addr × Nat × Nat × List Int)) (g : List Int) (w : World) (e : Ending) (w' : World) : Prop := ∃ b, e = .returned (.bool b) ∧ (b = true ↔ LetsP L U rows g) ∧ Bel w w'
set_option maxRecDepth 100000 in
set_option maxHeartbeats 2000000 in
theorem lets_any (LA UA PA GA : Option Addr) (ln lc un uc pn pc gn gc : Nat) (L U g : List Int) (rows : List (Option Addr × Nat × Nat × List Int)) (w : World) (hL : RI .u8 w w.heap.size LA ln L) (hU : RI .u8 w w.heap.size UA un U) (hP : RP w w.heap.size PA pn rows) (hG : RI .u8 w w.heap.size GA gn g) (hlm : ln ≤ 9223372036854775807) (hum : un ≤ 9223372036854775807) :
    Calls Try.prog 21 #[.agg #[.slice LA ln lc, .slice UA un uc, .slice PA pn pc], .slice GA gn gc] w (LetsPost L U rows g w) := by
  have HM := Lib.hid (fun (W : World) (hb : Bel w W) => mayTab_any LA UA PA ln lc un uc pn pc L U rows W (hL.bel hb) (hU.bel hb) (hP.bel hb) hlm hum)
  have HL := Lib.hid hL
  have HU := Lib.hid hU
  have HP := Lib.hid hP
  have HG := Lib.hid hG
  have HLL := Lib.hid hL.len
  have HUL := Lib.hid hU.len
  have HPL := Lib.hid hP.1
  have HGL := Lib.hid hG.len
  obtain ⟨r, hr⟩ : ∃ r, r = mayTab L U rows := ⟨_, rfl⟩
  rw [← hr] at HM
  have HR := Lib.hid hr
  clear hr hL hU hP hG
  by_cases h0 : r = 0
  case neg =>
    have h0' : (r != 0) = true := by simp [h0]
    have H0 := Lib.hid h0
    go_enter Try.func21, Try.ntmps21
    go_wp2_with fail
    refine (HM.out _ ((Bel.refl w).alloc _)).mono ?_
    rintro e w2 ⟨rfl, hb2⟩
    go_wp2_with fail
    go_ret
    unfold LetsPost
    refine ⟨false, rfl, ⟨fun e => (by cases e), fun h => absurd (HR.out.trans h.1) H0.out⟩, ((Bel.refl w).alloc _).on hb2⟩
  case pos =>
    subst h0
    by_cases h1 : gn = ln
    case neg =>
      have h1' : ((gn : Int) != (ln : Int)) = true := by simp; omega
      have H1 := Lib.hid h1
      go_enter Try.func21, Try.ntmps21
      go_wp2_with fail
      refine (HM.out _ ((Bel.refl w).alloc _)).mono ?_
      rintro e w2 ⟨rfl, hb2⟩
      obtain ⟨c0, c1, c2, _, _, _⟩ := cells3 (hb2.blk (blk1 w _))
      have HB2 := Lib.hid (((Bel.refl w).alloc _).on hb2)
      clear hb2
      go_wp2_with fail
      go_ret
      unfold LetsPost
      exact ⟨false, rfl, ⟨fun e => (by cases e), fun h => absurd (by rw [HGL.out, HLL.out]; exact h.2.1) H1.out⟩, HB2.out⟩
    case pos =>
      obtain rfl : ln = gn := h1.symm
      obtain ⟨z1, z2, z3, z4⟩ := may_zero HR.out.symm
      rw [← HLL.out] at z1 z2 z3 z4
      rw [← HUL.out] at z2
      rw [← HPL.out] at z3
      obtain rfl : ln = un := z2.symm
      obtain rfl : ln = pn := z3.symm
      have HZ := Lib.hid z4
      have h1' : ((ln : Int) != (ln : Int)) = false := by simp
      clear z2 z3 z4
      go_enter Try.func21, Try.ntmps21
      go_wp2_with fail
      refine (HM.out _ ((Bel.refl w).alloc _)).mono ?_
      rintro e w2 ⟨rfl, hb2⟩
      have hbx := hb2.blk (blk1 w _)
      obtain ⟨c0, c1, c2, _, _, _⟩ := cells3 hbx
      have HBX := Lib.hid hbx
      have HB2 := Lib.hid (((Bel.refl w).alloc _).on hb2)
      clear hb2 hbx
      go_wp2_with fail
      clear c0 c1 c2
      go_loopw [22] (fun i wr => ∃ j : Nat, j ≤ ln ∧ i = .int .i64 (j : Int) ∧ Hid (∀ p, p < j → LetsAt L U rows g p) ∧ Hid (wr = w2)) (fun i _ => ln - (intOf i).toNat)
      case atStart => exact ⟨0, Nat.zero_le _, rfl, Lib.hid (fun p hp => by omega), Lib.hid rfl⟩
      case round =>
        obtain ⟨j, hj, rfl, HT, HW⟩ := hrel
        obtain rfl := HW.out
        by_cases hlt : j < ln
        case neg =>
          obtain rfl : j = ln := by omega
          go_wp2_with fail
          go_ret
          unfold LetsPost
          exact ⟨true, rfl, ⟨fun _ => ⟨HR.out.symm, by rw [← HGL.out, ← HLL.out], fun i hi => HT.out i (by rw [HGL.out]; exact hi)⟩, fun _ => rfl⟩, HB2.out⟩
        case pos =>
          obtain ⟨c0, c1, c2, _, _, _⟩ := cells3 HBX.out
          obtain ⟨lb, lo, eL, _, hcL⟩ := (HL.out.bel HB2.out).at_ (by omega)
          obtain ⟨ub, uo, eU, _, hcU⟩ := (HU.out.bel HB2.out).at_ (by omega)
          obtain ⟨gb, go_, eG, _, hcG⟩ := (HG.out.bel HB2.out).at_ (by omega)
          obtain ⟨pb, po, eP, _, hcP⟩ := (HP.out.bel HB2.out).2 (by omega)
          obtain ⟨y, hy⟩ : ∃ y, rows[j]? = some y := ⟨_, List.getElem?_eq_getElem (by rw [← HPL.out]; exact hlt)⟩
          obtain ⟨k0, k1, _⟩ := hcP j y hy
          have l0 := hcL j hlt
          have u0 := hcU j hlt
          have g0 := hcG j hlt
          obtain ⟨lo_, hlo⟩ : ∃ a, a = L[j]?.getD 0 := ⟨_, rfl⟩
          obtain ⟨up_, hup⟩ : ∃ a, a = U[j]?.getD 0 := ⟨_, rfl⟩
          obtain ⟨m_, hm⟩ : ∃ a, a = g[j]?.getD 0 := ⟨_, rfl⟩
          rw [← hlo] at l0
          rw [← hup] at u0
          rw [← hm] at g0
          have HNO : Hid (¬ LetsAt L U rows g j → ∀ b : Bool, b = false → (b = true ↔ LetsP L U rows g)) := Lib.hid (fun hn b hb => ⟨fun e => (by rw [hb] at e; cases e), fun h => absurd (h.2.2 j (by rw [← HGL.out]; exact hlt)) hn⟩)
          have i1 : (0 : Int) ≤ (j : Int) := by omega
          have i2 : (j : Int) < (ln : Int) := by omega
          have HLO := Lib.hid hlo
          have HUP := Lib.hid hup
          have HMJ := Lib.hid hm
          have hyl := HZ.out y (List.mem_of_getElem? hy)
          have HK1 := Lib.hid k1
          have HYR : Hid (rowL rows j = y.2.2.2) := Lib.hid (by unfold rowL; rw [hy]; rfl)
          have hyn : y.2.1 = ln := by have := k1.len; omega
          rw [hyn] at k0 HK1
          have HCG := Lib.hid hcG
          subst eL eU eG eP
          clear hcL hcU hcG hcP hy hlo hup hm k1 hyl hyn
          by_cases t1 : m_ < lo_
          case pos =>
            go_wp2_with fail
            go_ret
            unfold LetsPost
            exact ⟨false, rfl, HNO.out (fun h => by have := h.1; rw [← HLO.out, ← HMJ.out] at this; omega) false rfl, HB2.out⟩
          case neg =>
            by_cases t2 : up_ < m_
            case pos =>
              go_wp2_with fail
              go_ret
              unfold LetsPost
              exact ⟨false, rfl, HNO.out (fun h => by have := h.2.1; rw [← HUP.out, ← HMJ.out] at this; omega) false rfl, HB2.out⟩
            case neg =>
              have HTM := Lib.hid (And.intro t1 t2)
              go_wp2_with fail
              clear l0 u0 g0 k0 c0 c1 c2
              go_loopw [49] (fun i wr' => ∃ q : Nat, q ≤ ln ∧ i = .int .i64 (q : Int) ∧ Hid (∀ p, p < q → m_ ≤ max (y.2.2.2[p]?.getD 0) (g[p]?.getD 0)) ∧ Hid (wr' = wr)) (fun i _ => ln - (intOf i).toNat)
              case atStart => exact ⟨0, Nat.zero_le _, rfl, Lib.hid (fun p hp => by omega), Lib.hid rfl⟩
              case round =>
                obtain ⟨q, hq, rfl, HT2, HW2⟩ := hrel
                obtain rfl := HW2.out
                by_cases hqt : q < ln
                case neg =>
                  obtain rfl : q = ln := by omega
                  have hat : LetsAt L U rows g j := ⟨by rw [← HLO.out, ← HMJ.out]; have := HTM.out.1; omega, by rw [← HUP.out, ← HMJ.out]; have := HTM.out.2; omega, fun p hp => by rw [← HMJ.out, HYR.out]; exact HT2.out p (by rw [HGL.out]; exact hp)⟩
                  have HAT := Lib.hid hat
                  clear hat
                  go_wp2_with fail
                  go_roundw
                  case rel =>
                    refine ⟨j + 1, by omega, by go_num, Lib.hid (fun p hp => ?_), Lib.hid (by trivial)⟩
                    by_cases e : p = j
                    · rw [e]; exact HAT.out
                    · exact HT.out p (by omega)
                  case measure => simp [intOf]; omega
                case pos =>
                  obtain ⟨rb, ro, eR, _, hcR⟩ := (HK1.out).at_ (by omega)
                  have r0 := hcR q hqt
                  have g1 := HCG.out q hqt
                  obtain ⟨a_, ha⟩ : ∃ a, a = y.2.2.2[q]?.getD 0 := ⟨_, rfl⟩
                  obtain ⟨b_, hb⟩ : ∃ a, a = g[q]?.getD 0 := ⟨_, rfl⟩
                  rw [← ha] at r0
                  rw [← hb] at g1
                  have HAA := Lib.hid ha
                  have HBB := Lib.hid hb
                  have q1 : (0 : Int) ≤ (q : Int) := by omega
                  have q2 : (q : Int) < (ln : Int) := by omega
                  simp only [eR]
                  clear hcR ha hb
                  by_cases t3 : max a_ b_ < m_
                  case pos =>
                    go_wp2_with fail
                    all_goals
                      go_ret
                      unfold LetsPost
                      exact ⟨false, rfl, HNO.out (fun h => by have := h.2.2 q (by rw [← HGL.out]; exact hqt); rw [← HMJ.out, HYR.out, ← HAA.out, ← HBB.out] at this; omega) false rfl, HB2.out⟩
                  case neg =>
                    have HT3 := Lib.hid t3
                    go_wp2_with fail
                    all_goals
                      go_roundw
                      case rel =>
                        refine ⟨q + 1, by omega, by go_num, Lib.hid (fun p hp => ?_), Lib.hid (by trivial)⟩
                        by_cases e : p = q
                        · rw [e, ← HAA.out, ← HBB.out]; have := HT3.out; omega
                        · exact HT2.out p (by omega)
                      case measure => simp [intOf]; omega
end Go.Proofs.Ytlbachjhhjjmfaa.Mu
namespace Go.Proofs.Ytlbachjhhjjmfaa.Mu
open Go.ChangeShapes Go.WideShapes Go.ChangeAt Go.RowKit Go.Shelf

attribute [local go_sem] Oper.semAt_some

def listsOf (rows : List (Option Addr × Nat × Nat × List Int)) : List (List Int) := rows.map fun r => r.2.2.2
set_option maxHeartbeats 1000000 in
theorem equalF_any (A B : Option Addr) (n n2 c d : Nat) (xs ys : List (Option Addr × Nat × Nat × List Int)) (w : World) (ha : RP w w.heap.size A n xs) (hb : RP w w.heap.size B n2 ys) (hnm : n ≤ 9223372036854775807) (hx : ∀ r ∈ xs, r.2.1 ≤ 1000000000) (hy : ∀ r ∈ ys, r.2.1 ≤ 1000000000) :
    Calls Try.prog 30 #[.slice A n c, .slice B n2 d, .func (.func 26) #[] #[]] w fun e w' => e = .returned (.bool (decide (listsOf xs = listsOf ys))) ∧ Bel w w' := by
  have HA := Lib.hid ha
  have HB := Lib.hid hb
  have HL := Lib.hid ha.1
  have HL2 := Lib.hid hb.1
  have HX := Lib.hid hx
  have HY := Lib.hid hy
  clear ha hb hx hy
  have hlen : (listsOf xs).length = n ∧ (listsOf ys).length = n2 := by unfold listsOf; simp [HL.out, HL2.out]
  have HLN := Lib.hid hlen
  clear hlen
  by_cases h1 : n = n2
  case neg =>
    have h1' : ((n : Int) != (n2 : Int)) = true := by simp; omega
    have hf : decide (listsOf xs = listsOf ys) = false := decide_eq_false (fun e => h1 (by rw [← HLN.out.1, ← HLN.out.2, e]))
    rw [hf]
    clear hf
    go_enter Try.func30, Try.ntmps30
    go_wp2
    go_ret
    exact ⟨rfl, Bel.refl _⟩
  case pos =>
    obtain rfl : n = n2 := h1
    have h1' : ((n : Int) != (n : Int)) = false := by simp
    obtain ⟨r, hr⟩ : ∃ r, r = decide (listsOf xs = listsOf ys) := ⟨_, rfl⟩
    rw [← hr]
    have HR := Lib.hid hr
    clear hr
    go_enter Try.func30, Try.ntmps30
    go_wp2_with fail
    go_loopw [17] (fun i wr => ∃ j : Nat, j ≤ n ∧ i = .int .i64 (j : Int) ∧ Hid ((listsOf xs).take j = (listsOf ys).take j) ∧ Hid (Bel w wr)) (fun i _ => n - (intOf i).toNat)
    case atStart => exact ⟨0, Nat.zero_le _, rfl, Lib.hid (by simp), Lib.hid (Bel.refl _)⟩
    case round =>
      obtain ⟨j, hj, rfl, HT, HBW⟩ := hrel
      by_cases hlt : j < n
      case neg =>
        obtain rfl : j = n := by omega
        go_wp2_with fail
        go_ret
        refine ⟨?_, HBW.out⟩
        have h := HT.out
        rw [List.take_of_length_le (by rw [HLN.out.1]; exact Nat.le_refl _), List.take_of_length_le (by rw [HLN.out.2]; exact Nat.le_refl _)] at h
        rw [HR.out, decide_eq_true h]
        rfl
      case pos =>
        obtain ⟨b, off, eA, _, hc⟩ := (HA.out.bel HBW.out).2 (by omega)
        obtain ⟨b2, off2, eB, _, hc2⟩ := (HB.out.bel HBW.out).2 (by omega)
        obtain ⟨x, hx⟩ : ∃ x, xs[j]? = some x := ⟨_, List.getElem?_eq_getElem (by rw [← HL.out]; exact hlt)⟩
        obtain ⟨y, hy⟩ : ∃ y, ys[j]? = some y := ⟨_, List.getElem?_eq_getElem (by rw [← HL2.out]; exact hlt)⟩
        obtain ⟨k0, k1, _⟩ := hc j x hx
        obtain ⟨l0, l1, _⟩ := hc2 j y hy
        have HC := Lib.hid (mequal_any x.1 y.1 x.2.1 y.2.1 x.2.2.1 y.2.2.1 x.2.2.2 y.2.2.2 wr k1 l1 (HX.out x (List.mem_of_getElem? hx)) (HY.out y (List.mem_of_getElem? hy)))
        have i1 : (0 : Int) ≤ (j : Int) := by omega
        have i2 : (j : Int) < (n : Int) := by omega
        have hx1 : (listsOf xs)[j]? = some x.2.2.2 := by unfold listsOf; rw [List.getElem?_map, hx]; rfl
        have hy1 : (listsOf ys)[j]? = some y.2.2.2 := by unfold listsOf; rw [List.getElem?_map, hy]; rfl
        have HXJ := Lib.hid hx1
        have HYJ := Lib.hid hy1
        obtain ⟨bb, hbb⟩ : ∃ bb, bb = decide (x.2.2.2 = y.2.2.2) := ⟨_, rfl⟩
        rw [← hbb] at HC
        have HBB := Lib.hid hbb
        subst eA eB
        clear hc hc2 hx hy hx1 hy1 hbb k1 l1
        cases bb
        · go_wp2_with fail
          refine HC.out.mono ?_
          rintro e w4 ⟨rfl, hb4⟩
          have HB4 := Lib.hid (HBW.out.on hb4)
          clear hb4
          go_wp2_with fail
          go_ret
          refine ⟨?_, HB4.out⟩
          have hne := of_decide_eq_false HBB.out.symm
          rw [HR.out, decide_eq_false (fun e => hne (by
            have h1 := HXJ.out
            rw [e, HYJ.out] at h1
            exact (Option.some.inj h1).symm))]
          rfl
        · go_wp2_with fail
          refine HC.out.mono ?_
          rintro e w4 ⟨rfl, hb4⟩
          have HB4 := Lib.hid (HBW.out.on hb4)
          clear hb4
          go_wp2_with fail
          go_roundw
          case rel => exact ⟨j + 1, by omega, by go_num, Lib.hid (by rw [take_snoc_ HXJ.out, take_snoc_ HYJ.out, HT.out, of_decide_eq_true HBB.out.symm]), HB4⟩
          case measure => simp [intOf]; omega
set_option maxRecDepth 100000 in
set_option maxHeartbeats 1000000 in
theorem tabSame_any (LA UA PA LB UB PB : Option Addr) (ln lc un uc pn pc ln2 lc2 un2 uc2 pn2 pc2 : Nat) (L U L2 U2 : List Int) (rows rows2 : List (Option Addr × Nat × Nat × List Int)) (w : World)
    (hL : RI .u8 w w.heap.size LA ln L) (hU : RI .u8 w w.heap.size UA un U) (hP : RP w w.heap.size PA pn rows) (hL2 : RI .u8 w w.heap.size LB ln2 L2) (hU2 : RI .u8 w w.heap.size UB un2 U2) (hP2 : RP w w.heap.size PB pn2 rows2)
    (hn1 : ln ≤ 1000000000 ∧ ln2 ≤ 1000000000 ∧ un ≤ 1000000000 ∧ un2 ≤ 1000000000 ∧ pn ≤ 1000000000) (hx : ∀ r ∈ rows, r.2.1 ≤ 1000000000) (hy : ∀ r ∈ rows2, r.2.1 ≤ 1000000000) :
    Calls Try.prog 11 #[.agg #[.slice LA ln lc, .slice UA un uc, .slice PA pn pc], .agg #[.slice LB ln2 lc2, .slice UB un2 uc2, .slice PB pn2 pc2]] w fun e w' => e = .returned (.bool (decide (L = L2) && decide (U = U2) && decide (listsOf rows = listsOf rows2))) ∧ Bel w w' := by
  have H1 := Lib.hid (fun (W : World) (hb : Bel w W) => mequal_any LA LB ln ln2 lc lc2 L L2 W (hL.bel hb) (hL2.bel hb) hn1.1 hn1.2.1)
  have H2 := Lib.hid (fun (W : World) (hb : Bel w W) => mequal_any UA UB un un2 uc uc2 U U2 W (hU.bel hb) (hU2.bel hb) hn1.2.2.1 hn1.2.2.2.1)
  have H3 := Lib.hid (fun (W : World) (hb : Bel w W) => equalF_any PA PB pn pn2 pc pc2 rows rows2 W (hP.bel hb) (hP2.bel hb) (by have := hn1.2.2.2.2; omega) hx hy)
  clear hL hU hP hL2 hU2 hP2 hx hy hn1
  obtain ⟨p1, hp1⟩ : ∃ p, p = decide (L = L2) := ⟨_, rfl⟩
  obtain ⟨p2, hp2⟩ : ∃ p, p = decide (U = U2) := ⟨_, rfl⟩
  obtain ⟨p3, hp3⟩ : ∃ p, p = decide (listsOf rows = listsOf rows2) := ⟨_, rfl⟩
  rw [← hp1] at H1 ⊢
  rw [← hp2] at H2 ⊢
  rw [← hp3] at H3 ⊢
  clear hp1 hp2 hp3
  cases p1
  · go_enter Try.func11, Try.ntmps11
    go_wp2_with fail
    refine (H1.out _ (((Bel.refl w).alloc _).alloc _)).mono ?_
    rintro e w2 ⟨rfl, hb2⟩
    go_wp2_with fail
    go_ret
    exact ⟨rfl, (((Bel.refl w).alloc _).alloc _).on hb2⟩
  · cases p2
    · go_enter Try.func11, Try.ntmps11
      go_wp2_with fail
      refine (H1.out _ (((Bel.refl w).alloc _).alloc _)).mono ?_
      rintro e w2 ⟨rfl, hb2⟩
      obtain ⟨x1, x2⟩ := blk2 w (.cells #[.slice LA ln lc, .slice UA un uc, .slice PA pn pc] 26) (.cells #[.slice LB ln2 lc2, .slice UB un2 uc2, .slice PB pn2 pc2] 26)
      obtain ⟨c0, c1, c2, _, _, _⟩ := cells3 (hb2.blk x1)
      obtain ⟨d0, d1, d2, _, _, _⟩ := cells3 (hb2.blk x2)
      have HB2 := Lib.hid ((((Bel.refl w).alloc _).alloc _).on hb2)
      clear hb2 x1 x2
      go_wp2_with fail
      refine (H2.out _ HB2.out).mono ?_
      rintro e w3 ⟨rfl, hb3⟩
      have HB3 := Lib.hid (HB2.out.on hb3)
      clear hb3 c0 c1 c2 d0 d1 d2
      go_wp2_with fail
      go_ret
      exact ⟨rfl, HB3.out⟩
    · go_enter Try.func11, Try.ntmps11
      go_wp2_with fail
      refine (H1.out _ (((Bel.refl w).alloc _).alloc _)).mono ?_
      rintro e w2 ⟨rfl, hb2⟩
      obtain ⟨x1, x2⟩ := blk2 w (.cells #[.slice LA ln lc, .slice UA un uc, .slice PA pn pc] 26) (.cells #[.slice LB ln2 lc2, .slice UB un2 uc2, .slice PB pn2 pc2] 26)
      have HX1 := Lib.hid (hb2.blk x1)
      have HX2 := Lib.hid (hb2.blk x2)
      obtain ⟨c0, c1, c2, _, _, _⟩ := cells3 HX1.out
      obtain ⟨d0, d1, d2, _, _, _⟩ := cells3 HX2.out
      have HB2 := Lib.hid ((((Bel.refl w).alloc _).alloc _).on hb2)
      clear hb2 x1 x2
      go_wp2_with fail
      refine (H2.out _ HB2.out).mono ?_
      rintro e w3 ⟨rfl, hb3⟩
      clear c0 c1 c2 d0 d1 d2
      obtain ⟨c0, c1, c2, _, _, _⟩ := cells3 (hb3.blk HX1.out)
      obtain ⟨d0, d1, d2, _, _, _⟩ := cells3 (hb3.blk HX2.out)
      have HB3 := Lib.hid (HB2.out.on hb3)
      clear hb3
      go_wp2_with fail
      refine (H3.out _ HB3.out).mono ?_
      rintro e w4 ⟨rfl, hb4⟩
      have HB4 := Lib.hid (HB3.out.on hb4)
      clear hb4 c0 c1 c2 d0 d1 d2
      cases p3
      all_goals
        go_wp2_with fail
        go_ret
        exact ⟨rfl, HB4.out⟩
end Go.Proofs.Ytlbachjhhjjmfaa.Mu
namespace Go.Proofs.Ytlbachjhhjjmfaa.Mu
open Go.ChangeShapes Go.WideShapes Go.ChangeAt Go.RowKit Go.Shelf

attribute [local go_sem] Oper.semAt_some

set_option maxHeartbeats 1000000 in
theorem indexI_any (A : Option Addr) (n cap : Nat) (x : Int) (l : List Int) (w : World) (hr : RI .i64 w w.heap.size A n l) (hmax : n ≤ 9223372036854775807) :
    Calls Try.prog 60 #[.slice A n cap, .int .i64 x] w fun e w' => ∃ r : Int, e = .returned (.int .i64 r) ∧ ((x ∈ l ∧ 0 ≤ r) ∨ (x ∉ l ∧ r = -1)) ∧ Bel w w' := by
  have HR := Lib.hid hr
  have HL := Lib.hid hr.len
  clear hr
  go_enter Try.func60, Try.ntmps60
  go_wp2
  go_loopw [8] (fun i wr => ∃ j : Nat, j ≤ n ∧ i = .int .i64 (j : Int) ∧ Hid (x ∉ l.take j) ∧ Hid (Bel w wr)) (fun i _ => n - (intOf i).toNat)
  case atStart => exact ⟨0, Nat.zero_le _, rfl, Lib.hid (by simp), Lib.hid (Bel.refl _)⟩
  case round =>
    obtain ⟨j, hj, rfl, HT, HB⟩ := hrel
    by_cases hlt : j < n
    · obtain ⟨b, off, eA, hb, hc⟩ := (HR.out.bel HB.out).at_ (by omega)
      subst eA
      have c0 := hc j hlt
      have i1 : (0 : Int) ≤ (j : Int) := by omega
      have i2 : (j : Int) < (n : Int) := by omega
      obtain ⟨y, hy⟩ : ∃ y, l[j]? = some y := ⟨_, List.getElem?_eq_getElem (by rw [← HL.out]; exact hlt)⟩
      rw [hy, Option.getD_some] at c0
      have HY := Lib.hid hy
      clear hc hy
      by_cases he : x = y
      · subst he
        go_wp2
        go_ret
        exact ⟨_, rfl, .inl ⟨List.mem_of_getElem? HY.out, by omega⟩, HB.out⟩
      · have he' : (x == y) = false := by simp [he]
        have HE := Lib.hid he
        go_wp2
        go_roundw
        case rel => exact ⟨j + 1, by omega, by go_num, Lib.hid (by rw [take_snoc_ HY.out, List.mem_append, List.mem_singleton]; exact fun h => h.elim HT.out HE.out), HB⟩
        case measure => simp [intOf]; omega
    · obtain rfl : j = n := by omega
      go_wp2
      go_ret
      refine ⟨_, rfl, .inr ⟨?_, rfl⟩, HB.out⟩
      have h := HT.out
      rw [HL.out, List.take_length] at h
      exact h
theorem contains_any (A : Option Addr) (n cap : Nat) (x : Int) (l : List Int) (w : World) (hr : RI .i64 w w.heap.size A n l) (hmax : n ≤ 9223372036854775807) :
    Calls Try.prog 33 #[.slice A n cap, .int .i64 x] w fun e w' => e = .returned (.bool (decide (x ∈ l))) ∧ Bel w w' := by
  go_enter Try.func33, Try.ntmps33
  go_wp2_with fail
  refine (indexI_any A n cap x l w hr hmax).mono ?_
  rintro e w2 ⟨r, rfl, ⟨h1, h2⟩ | ⟨h1, h2⟩, hb⟩
  · have HH := Lib.hid h1
    clear h1
    go_wp2
    go_ret
    exact ⟨by simp [HH.out], hb⟩
  · subst h2
    have HH := Lib.hid h1
    clear h1
    go_wp2
    go_ret
    exact ⟨by simp [HH.out], hb⟩

/-- What may be kept of n variables. -/
def KeepOk (n : Int) (l : List Int) : Prop := (∀ v ∈ l, 0 ≤ v ∧ v < n) ∧ l.Nodup
instance (n : Int) (l : List Int) : Decidable (KeepOk n l) := by unfold KeepOk; infer_instance
theorem keepOk_snoc {n v : Int} {l : List Int} : KeepOk n (l ++ [v]) ↔ KeepOk n l ∧ 0 ≤ v ∧ v < n ∧ v ∉ l := by
  unfold KeepOk
  rw [List.nodup_append]
  constructor
  · rintro ⟨h1, h2, _, h3⟩
    exact ⟨⟨fun u hu => h1 u (List.mem_append_left _ hu), h2⟩, (h1 v (by simp)).1, (h1 v (by simp)).2, fun hm => h3 v hm v (by simp) rfl⟩
  · rintro ⟨⟨h1, h2⟩, h3, h4, h5⟩
    refine ⟨fun u hu => ?_, h2, by simp, fun a ha b hb e => ?_⟩
    · rcases List.mem_append.1 hu with h | h
      · exact h1 u h
      · rw [List.mem_singleton.1 h]; exact ⟨h3, h4⟩
    · rw [List.mem_singleton.1 hb] at e
      exact h5 (by rw [← e]; exact ha)
theorem keepOk_take {n : Int} {l : List Int} (h : KeepOk n l) (j : Nat) : KeepOk n (l.take j) := ⟨fun v hv => h.1 v (List.mem_of_mem_take hv), h.2.sublist (List.take_sublist _ _)⟩
theorem ri_take {w : World} {B n : Nat} {A : Option Addr} {l : List Int} (h : RI .i64 w B A n l) {j : Nat} (hj : j ≤ n) : RI .i64 w B A j (l.take j) := by
  refine ⟨by have := h.len; simp; omega, fun hp => ?_⟩
  obtain ⟨b, off, e, hb, hc⟩ := h.2 (by omega)
  refine ⟨b, off, e, hb, fun k hk => ?_⟩
  rw [List.getElem?_take_of_lt hk]
  exact hc k (by omega)
set_option maxHeartbeats 1000000 in
theorem mayKeep_any (n : Int) (A : Option Addr) (k cap : Nat) (l : List Int) (w : World) (hr : RI .i64 w w.heap.size A k l) (hmax : k ≤ 1048576) (hcap : k ≤ cap) :
    Calls Try.prog 27 #[.int .i64 n, .slice A k cap] w fun e w' => e = .returned (.bool (decide (KeepOk n l))) ∧ Bel w w' := by
  have HR := Lib.hid hr
  have HL := Lib.hid hr.len
  clear hr
  go_enter Try.func27, Try.ntmps27
  go_wp2
  go_loopw [9] (fun i wr => ∃ j : Nat, j ≤ k ∧ i = .int .i64 (j : Int) ∧ Hid (KeepOk n (l.take j)) ∧ Hid (Bel w wr)) (fun i _ => k - (intOf i).toNat)
  case atStart => exact ⟨0, Nat.zero_le _, rfl, Lib.hid ⟨by simp, by simp⟩, Lib.hid (Bel.refl _)⟩
  case round =>
    obtain ⟨j, hj, rfl, HT, HB⟩ := hrel
    by_cases hlt : j < k
    · have HRB := Lib.hid (HR.out.bel HB.out)
      obtain ⟨b, off, eA, hb, hc⟩ := HRB.out.at_ (by omega)
      obtain ⟨y, hy⟩ : ∃ y, l[j]? = some y := ⟨_, List.getElem?_eq_getElem (by rw [← HL.out]; exact hlt)⟩
      have c0 := hc j hlt
      rw [hy, Option.getD_some] at c0
      have htk := take_snoc_ hy
      have HTK := Lib.hid htk
      have HNO : Hid (¬ (0 ≤ y ∧ y < n ∧ y ∉ l.take j) → decide (KeepOk n l) = false) := Lib.hid (fun h => by
        refine decide_eq_false (fun hk => h ?_)
        have h2 := keepOk_take hk (j + 1)
        rw [htk] at h2
        exact (keepOk_snoc.1 h2).2)
      have i1 : (0 : Int) ≤ (j : Int) := by omega
      have i2 : (j : Int) < (k : Int) := by omega
      have i3 : j ≤ cap := by omega
      subst eA
      have HC := Lib.hid (fun (W : World) (hb : Bel wr W) => contains_any (some ⟨b, off, none⟩) j cap y (l.take j) W (ri_take (HRB.out.bel hb) hj) (by omega))
      clear hc hy htk
      by_cases h1 : y < 0
      · have hf := HNO.out (fun h => by omega)
        have HF := Lib.hid hf
        clear hf
        go_wp2
        go_ret
        exact ⟨by rw [HF.out]; rfl, HB.out⟩
      · by_cases h2 : n ≤ y
        · have hf := HNO.out (fun h => by omega)
          have HF := Lib.hid hf
          clear hf
          go_wp2
          go_ret
          exact ⟨by rw [HF.out]; rfl, HB.out⟩
        · obtain ⟨r, hr⟩ : ∃ r, r = decide (y ∈ l.take j) := ⟨_, rfl⟩
          rw [← hr] at HC
          have HRR := Lib.hid hr
          clear hr
          cases r
          · go_wp2_with fail
            refine (HC.out _ (Bel.refl _)).mono ?_
            rintro e w2 ⟨rfl, hb2⟩
            have HB2 := Lib.hid (HB.out.on hb2)
            clear hb2
            go_wp2
            go_roundw
            case rel => exact ⟨j + 1, by omega, by go_num, Lib.hid (by rw [HTK.out]; exact keepOk_snoc.2 ⟨HT.out, by omega, by omega, by have := HRR.out; simpa using this.symm⟩), HB2⟩
            case measure => simp [intOf]; omega
          · have hf := HNO.out (fun h => h.2.2 (by have := HRR.out; simpa using this.symm))
            have HF := Lib.hid hf
            clear hf
            go_wp2_with fail
            refine (HC.out _ (Bel.refl _)).mono ?_
            rintro e w2 ⟨rfl, hb2⟩
            have HB2 := Lib.hid (HB.out.on hb2)
            clear hb2
            go_wp2
            go_ret
            exact ⟨by rw [HF.out]; rfl, HB2.out⟩
    · obtain rfl : j = k := by omega
      go_wp2
      go_ret
      refine ⟨?_, HB.out⟩
      have h := HT.out
      rw [HL.out, List.take_length] at h
      simp [h]
end Go.Proofs.Ytlbachjhhjjmfaa.Mu

