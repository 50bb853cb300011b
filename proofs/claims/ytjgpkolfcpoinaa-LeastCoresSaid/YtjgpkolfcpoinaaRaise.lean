/-
  raise.
-/
import Derived.Test.YtjgpkolfcpoinaaRaiseMath
namespace Go.Proofs.Ytjgpkolfcpoinaa.Mu
set_option linter.unusedSimpArgs false
open Go.ChangeShapes Go.WideShapes Go.ChangeAt Go.RowKit Go.Shelf

attribute [local go_sem] Oper.semAt_some

def retZ : Option Nat → Int
  | none => -1
  | some i => i
def mP (len : Nat) (p : Int) : Nat := if p < 0 then 0 else (len - p).toNat + 1
def isU : Value → Bool
  | .int _ i => i == -1
  | _ => false
def measW (k : Bk) (w : World) : Nat :=
  (match w.heap[k.gb]? with | some (.cells c _ _) => c.toList.countP isU | _ => 0) + (match w.heap[k.gc]? with | some (.chan _ b _ _ _ _) => b.size | _ => 0)
theorem measW_eq {w : World} {k : Bk} {xs : List Iq} {F N G B Q : List Int} (h : St w k xs F N G B Q) : measW k w = B.count (-1) + Q.length := by
  obtain ⟨a, b, e⟩ := h.ch
  have hb := h.sol.hb
  unfold Arr at hb
  unfold measW
  rw [e, hb]
  simp only [encZ_size]
  congr 1
  rw [List.countP_map]
  rfl

def RaisePost (k : Bk) (xs : List Iq) (F N : List Int) (T : Option Nat × List Int × List Int) (w : World) (e : Ending) (w' : World) : Prop :=
  e = .returned (.int .i64 (retZ T.1)) ∧ (∃ Q', (T.1 = none → Q' = []) ∧ St w' k xs F N T.2.1 T.2.2 Q') ∧ Below k.base w w'

set_option maxRecDepth 100000 in
set_option maxHeartbeats 2000000 in
theorem raise_any (k : Bk) (xs : List Iq) (F N G B : List Int) (m : Int) (R : Nat → List Nat) (hl : k.len ≤ 1048576) (hn : k.n ≤ 1048576) (hok : OkR k.n xs) (hR : ∀ v, v < k.n → Chain N (F[v]?.getD 0) (R v)) (w : World) (h : St w k xs F N G B []) :
    Calls Try.prog 41 #[.pointer (some ⟨k.s, 0, none⟩), .int .u8 m] w (RaisePost k xs F N (raiseF xs k.n m R G B) w) := by
  have HS := Lib.hid h
  have HOK := Lib.hid hok
  have HR := Lib.hid hR
  have HN := Lib.hid hn
  have HL := Lib.hid hl
  have HLX := Lib.hid h.q.len
  clear h hok hR
  obtain ⟨T, hT⟩ : ∃ T, T = raiseF xs k.n m R G B := ⟨_, rfl⟩
  rw [← hT]
  have HT := Lib.hid hT
  clear hT
  go_enter Try.func41, Try.ntmps41
  go_wp2_with fail
  refine (begin_any k xs F N G B m HN.out w HS.out).mono ?_
  rintro e w1 ⟨⟨v, rfl⟩, hs1, hb1⟩
  have HS1 := Lib.hid hs1
  have HB1 := Lib.hid hb1
  have q0 : w1.cell? ⟨k.s, 0, none⟩ = some (.slice k.A k.len k.cap) := by simp [World.cell?, hs1.sol.hs, cellsS]
  clear hs1 hb1
  go_wp2_with fail
  clear q0
  go_loopw [17] (fun i wr => ∃ (j : Nat) (B1 Q1 : List Int), j ≤ k.len ∧ i = .int .i64 (j : Int) ∧ Hid (handL xs m (firstL xs m j) B1 Q1 = handL xs m (firstL xs m 0) (begB G m B k.n) (begQ G m k.n)) ∧ Hid (BQ k.n B1 Q1) ∧ Hid (St wr k xs F N G B1 Q1) ∧ Hid (Below k.base w wr))
    (fun i _ => (k.len - intOf i).toNat)
  case atStart => exact ⟨0, _, _, Nat.zero_le _, rfl, Lib.hid rfl, Lib.hid (beg_BQ HS.out.lb), HS1, HB1⟩
  case round =>
    obtain ⟨j, B1, Q1, hj, rfl, HHL, HBQ, HSR, HBR⟩ := hrel
    by_cases hlt : j < k.len
    · obtain ⟨x, hx⟩ : ∃ x, xs[j]? = some x := ⟨_, List.getElem?_eq_getElem (by rw [← HLX.out]; exact hlt)⟩
      obtain ⟨qb, qo, eA, qlt, qc⟩ := HSR.out.q.at_ (by omega)
      obtain ⟨c0, c1, c2, c3⟩ := qc j x hx
      have HX := Lib.hid hx
      have HA := Lib.hid eA
      have i1 : (0 : Int) ≤ (j : Int) := by omega
      have i2 : (j : Int) < (k.len : Int) := by omega
      rw [eA]
      clear qc hx eA qlt
      have HXW := Lib.hid (HSR.out.bel ((Bel.refl wr).alloc (.cells #[.int .i64 x.v, .int .u8 x.m, .int .u8 x.c, .int .i64 x.r] 31)))
      have HBA := Lib.hid (HBR.out.trans (Below.mono ((Bel.refl wr).alloc (.cells #[.int .i64 x.v, .int .u8 x.m, .int .u8 x.c, .int .i64 x.r] 31)) HSR.out.sz))
      by_cases hm : m ≤ x.m
      · have hst : handL xs m (firstL xs m j) B1 Q1 = if (handF B1 Q1 x m j).1 then handL xs m (firstL xs m (j + 1)) (handF B1 Q1 x m j).2.1 (handF B1 Q1 x m j).2.2 else (some j, B1, Q1) := by
          rw [firstL_step xs m HX.out, if_pos hm, handL_cons HX.out]
        have HST := Lib.hid (HHL.out.symm.trans hst)
        have HBF := Lib.hid (handF_BQ (m := m) (i := j) HBQ.out (HOK.out.at_ HX.out)).1
        clear hst
        go_wp2_with fail
        refine (handOn_any k xs F N G B1 Q1 j m x HX.out HL.out HN.out (HOK.out.at_ HX.out) (fun h3 => HBQ.out.room_ h3) _ HXW.out).mono ?_
        rintro e w2 ⟨rfl, hs2, hb2⟩
        obtain ⟨bb, hbb⟩ : ∃ bb, bb = (handF B1 Q1 x m j).1 := ⟨_, rfl⟩
        rw [← hbb]
        have HB2 := Lib.hid (HBA.out.trans hb2)
        have HBB := Lib.hid hbb
        cases bb
        · have he := HST.out
          rw [← hbb, if_neg (by simp)] at he
          rw [handF_false hbb.symm] at hs2
          have HE := Lib.hid he
          have HS2 := Lib.hid hs2
          clear he hs2 hb2 hbb
          go_wp2
          go_ret
          have ht := HT.out
          rw [raiseF_some HE.out] at ht
          rw [ht]
          exact ⟨rfl, ⟨_, (fun h => by cases h), HS2.out⟩, HB2.out⟩
        · have he := HST.out
          rw [← hbb, if_pos rfl] at he
          have HE := Lib.hid he.symm
          have HS2 := Lib.hid hs2
          clear he hs2 hb2 hbb
          go_wp2
          go_roundw
          case rel => exact ⟨j + 1, _, _, by omega, by go_num, HE, HBF, HS2, HB2⟩
          case measure => simp [intOf]; omega
      · have hst : handL xs m (firstL xs m j) B1 Q1 = handL xs m (firstL xs m (j + 1)) B1 Q1 := by
          rw [firstL_step xs m HX.out, if_neg hm]
        have HST := Lib.hid (hst.symm.trans HHL.out)
        clear hst
        go_wp2
        go_roundw
        case rel => exact ⟨j + 1, _, _, by omega, by go_num, HST, HBQ, HXW, HBA⟩
        case measure => simp [intOf]; omega
    · obtain rfl : j = k.len := by omega
      have hend := HHL.out
      rw [HLX.out, firstL_end] at hend
      have ht := HT.out
      rw [raiseF_none hend.symm] at ht
      have HT2 := Lib.hid ht.symm
      clear hend ht
      go_wp2_with fail
      go_loopw [] (fun wr => ∃ (f : Nat) (G2 B2 Q2 : List Int), Hid (todoL xs m R f G2 B2 Q2 = T) ∧ Hid (BQ k.n B2 Q2) ∧ Hid (B2.count (-1) + Q2.length ≤ f) ∧ Hid (St wr k xs F N G2 B2 Q2) ∧ Hid (Below k.base w wr))
        (fun W => measW k W)
      case atStart => exact ⟨k.n, G, B1, Q1, HT2, HBQ, Lib.hid HBQ.out.room, HSR, HBR⟩
      case round =>
        obtain ⟨f, G2, B2, Q2, HTL, HBQ2, HF2, HS2, HBW2⟩ := hrel
        generalize hc9 : Code.region 9 #[{ dst := some 40, op := Op.select #[{ chan := Operand.tmp 39, send := none, elem := 3 }] false, type := 0, pos := "least.go:93", after := #[], guard := none }, { dst := some 41, op := Op.extract (Operand.tmp 40) 0, type := 3, pos := "least.go:93", after := #[{ on := 0, ground := Ground.data }], guard := none }, { dst := some 42, op := Op.binOp BinOp.eql 3 (Operand.tmp 41) (Operand.const (Value.int IntKind.i64 0)) 3, type := 4, pos := "least.go:93", after := #[{ on := 1, ground := Ground.data }], guard := none }] false = c9
        have HC9 := Lib.hid hc9
        clear hc9
        have q5 : wr.cell? ⟨k.s, 5, none⟩ = some (.chan (some k.gc)) := by simp [World.cell?, HS2.out.sol.hs, cellsS]
        obtain ⟨sq, rq, hch⟩ := HS2.out.ch
        have HCH := Lib.hid hch
        clear hch
        cases Q2 with
        | nil =>
          have ht := HTL.out
          rw [todoL_nil] at ht
          have HTE := Lib.hid ht
          clear ht
          go_wp2_with fail
          rw [← HC9.out]
          refine AtR.region ?_
          change AtR _ _ _ [0, 1, 2] _ _
          refine AtR.default_ (x := .tmp 39) (c := k.gc) (z := .int .i64 0) rfl rfl rfl (by go_simp) (by rfl) HCH.out ?_
          (try simp only [Act.put, List.setIfInBounds_toArray, List.set_cons_zero, List.set_cons_succ])
          (refine AtR.pure (v := ?_) rfl rfl ?_ ?_; rotate_left; · (go_simp; all_goals with_reducible rfl))
          (try simp only [Act.put, List.setIfInBounds_toArray, List.set_cons_zero, List.set_cons_succ])
          (refine AtR.pure (v := ?_) rfl rfl ?_ ?_; rotate_left; · (go_simp; all_goals with_reducible rfl))
          (try simp only [Act.put, List.setIfInBounds_toArray, List.set_cons_zero, List.set_cons_succ])
          refine AtR.nil ?_
          go_wp2
          go_ret
          rw [← HTE.out]
          exact ⟨rfl, ⟨_, (fun _ => rfl), HS2.out⟩, HBW2.out⟩
        | cons v Q3 =>
          go_wp2_with fail
          rw [← HC9.out]
          refine AtR.region ?_
          change AtR _ _ _ [0, 1, 2] _ _
          refine AtR.recv (x := .tmp 39) (c := k.gc) (z := .int .i64 0) rfl rfl rfl (by go_simp) (by rfl) HCH.out (by simp [encZ]) ?_
          rw [encZ_head, encZ_tail]
          (try simp only [Act.put, List.setIfInBounds_toArray, List.set_cons_zero, List.set_cons_succ])
          (refine AtR.pure (v := ?_) rfl rfl ?_ ?_; rotate_left; · (go_simp; all_goals with_reducible rfl))
          (try simp only [Act.put, List.setIfInBounds_toArray, List.set_cons_zero, List.set_cons_succ])
          (refine AtR.pure (v := ?_) rfl rfl ?_ ?_; rotate_left; · (go_simp; all_goals with_reducible rfl))
          (try simp only [Act.put, List.setIfInBounds_toArray, List.set_cons_zero, List.set_cons_succ])
          refine AtR.nil ?_
          have HS3 := Lib.hid (HS2.out.chan Q3 sq (rq + 1))
          have HB3 := Lib.hid (Conc.below_setChan HBW2.out HS2.out.d.1.2.2.2.2.2 k.n (encZ Q3) false sq (rq + 1) false)
          obtain ⟨w3, hw3⟩ : ∃ w3, w3 = wr.setChan k.gc k.n (encZ Q3) false sq (rq + 1) false := ⟨_, rfl⟩
          rw [← hw3] at HS3 HB3 ⊢
          clear hw3
          obtain ⟨v0, v1⟩ := HBQ2.out.ok v (by simp)
          have q3 : w3.cell? ⟨k.s, 3, none⟩ = some (.slice (some ⟨k.ga, 0, none⟩) k.n k.n) := by simp [World.cell?, HS3.out.sol.hs, cellsS]
          have qG := HS3.out.sol.ha.cell (j := v.toNat) (by have := HS3.out.lg; omega)
          have qF := HS3.out.sol.ha.frozen v.toNat
          obtain ⟨g, hg⟩ : ∃ g, g = max (G2[v.toNat]?.getD 0) m := ⟨_, rfl⟩
          have HS4 := Lib.hid (HS3.out.setG v.toNat g)
          have HB4 := Lib.hid (HB3.out.setCell (p := ⟨k.ga, v.toNat, none⟩) HS3.out.d.1.2.2.2.1 (.int .u8 g))
          obtain ⟨w4, hw4⟩ : ∃ w4, w4 = w3.setCell ⟨k.ga, v.toNat, none⟩ (.int .u8 g) := ⟨_, rfl⟩
          have HW4 := Lib.hid hw4
          have HG := Lib.hid hg
          rw [← hw4] at HS4 HB4
          clear hw4 hg
          have q1 : w4.cell? ⟨k.s, 1, none⟩ = some (.slice (some ⟨k.gf, 0, none⟩) k.n k.n) := by simp [World.cell?, HS4.out.sol.hs, cellsS]
          have qf := HS4.out.sol.hf.cell (j := v.toNat) (by have := HS4.out.lf; omega)
          obtain ⟨f1, rfl⟩ : ∃ f1, f = f1 + 1 := ⟨f - 1, by have := HF2.out; simp only [List.length_cons] at this; omega⟩
          have hb3 : BQ k.n B2 Q3 := ⟨HBQ2.out.lb, by have := HBQ2.out.room; simp only [List.length_cons] at this; omega, fun u hu => HBQ2.out.ok u (List.mem_cons_of_mem _ hu)⟩
          have HBQ3 := Lib.hid hb3
          have HCN := Lib.hid (HR.out v.toNat (by omega))
          have HLN : Hid (N.length = xs.length) := Lib.hid (HS4.out.ln.trans HLX.out)
          have HTOT := Lib.hid (handL_BQ HOK.out (m := m) (R v.toNat) (fun i hi => by rw [← HLN.out]; exact HCN.out.lt i hi) HBQ3.out)
          have htl := HTL.out
          simp only [todoL] at htl
          rw [← HG.out] at htl
          have HTE := Lib.hid htl
          clear hb3 htl
          go_wp2_with fail
          go_region
          rw [← HG.out, ← HW4.out]
          clear q3 qG qF
          go_wp2_with fail
          clear q1 qf
          go_loopw [8] (fun p wi => ∃ (pI : Int) (is : List Nat) (B4 Q4 : List Int), p = .int .i64 pI ∧ Hid (Chain N pI is) ∧ Hid (handL xs m is B4 Q4 = handL xs m (R v.toNat) B2 Q3) ∧ Hid (BQ k.n B4 Q4) ∧ Hid (St wi k xs F N (G2.set v.toNat g) B4 Q4) ∧ Hid (Below k.base w wi))
            (fun p _ => mP k.len (intOf p))
          case atStart => exact ⟨_, _, _, _, rfl, HCN, Lib.hid rfl, HBQ3, Lib.hid HS4.out.drew, Lib.hid (let h := HB4.out; ⟨h.os, h.tape, h.output, h.size, h.block⟩)⟩
          case round =>
            obtain ⟨pI, is, B4, Q4, rfl, HCI, HHI, HBI, HSI, HBWI⟩ := hrel
            cases is with
            | nil =>
              obtain rfl : pI = -1 := HCI.out
              have he : handL xs m (R v.toNat) B2 Q3 = (none, B4, Q4) := HHI.out.symm
              have ht := HTE.out
              have htot := HTOT.out.2
              rw [he] at ht htot
              dsimp only at ht htot
              have HTN := Lib.hid ht
              have HTC := Lib.hid htot
              clear he ht htot
              go_wp2
              go_roundw
              case rel => exact ⟨f1, _, _, _, HTN, HBI, Lib.hid (by have h1 := HTC.out; have h2 := HF2.out; simp only [List.length_cons] at h2; omega), HSI, HBWI⟩
              case measure =>
                rw [measW_eq HSI.out, measW_eq HS2.out, HTC.out, List.length_cons]
                omega
            | cons i is =>
              obtain ⟨rfl, hil, hnx, hch⟩ := HCI.out
              obtain ⟨x, hx⟩ : ∃ x, xs[i]? = some x := ⟨_, List.getElem?_eq_getElem (by rw [← HLN.out]; exact hil)⟩
              have hii : i < k.len := by rw [HLX.out, ← HLN.out]; exact hil
              have HX := Lib.hid hx
              obtain ⟨y, hy⟩ : ∃ y, y = N[i]?.getD 0 := ⟨_, rfl⟩
              rw [← hy] at hch hnx
              have HY := Lib.hid hy
              have HIL := Lib.hid hil
              have HCH2 := Lib.hid hch
              have HNX := Lib.hid hnx
              have hst := handL_cons (m := m) hx is B4 Q4
              have HST := Lib.hid (HHI.out.symm.trans hst)
              have HBF := Lib.hid (handF_BQ (m := m) (i := i) HBI.out (HOK.out.at_ HX.out)).1
              have n1 : ¬ ((i : Int) = -1) := by omega
              clear hst hx hch hnx hy hil
              go_wp2_with fail
              refine (handOn_any k xs F N (G2.set v.toNat g) B4 Q4 i m x HX.out HL.out HN.out (HOK.out.at_ HX.out) (fun h3 => HBI.out.room_ h3) _ HSI.out).mono ?_
              rintro e w5 ⟨rfl, hs5, hb5⟩
              obtain ⟨bb, hbb⟩ : ∃ bb, bb = (handF B4 Q4 x m i).1 := ⟨_, rfl⟩
              rw [← hbb]
              have HB5 := Lib.hid (HBWI.out.trans hb5)
              cases bb
              · have he := HST.out
                rw [← hbb, if_neg (by simp)] at he
                rw [handF_false hbb.symm] at hs5
                have ht := HTE.out
                rw [he] at ht
                dsimp only at ht
                have HE := Lib.hid ht
                have HS5 := Lib.hid hs5
                clear he hs5 hb5 hbb ht
                go_wp2
                go_ret
                rw [← HE.out]
                exact ⟨rfl, ⟨_, (fun h => by cases h), HS5.out⟩, HB5.out⟩
              · have he := HST.out
                rw [← hbb, if_pos rfl] at he
                have HE := Lib.hid he.symm
                have HS5 := Lib.hid hs5
                have q2 : w5.cell? ⟨k.s, 2, none⟩ = some (.slice (some ⟨k.gn, 0, none⟩) k.len k.len) := by simp [World.cell?, HS5.out.sol.hs, cellsS]
                have qn := HS5.out.sol.hn.cell (j := i) HIL.out
                rw [← HY.out] at qn
                have i1 : (0 : Int) ≤ (i : Int) := by omega
                have i2 : (i : Int) < (k.len : Int) := by omega
                clear he hs5 hb5 hbb
                go_wp2
                go_roundw
                case rel => exact ⟨_, is, _, _, rfl, HCH2, HE, HBF, HS5, HB5⟩
                case measure =>
                  show mP k.len y < mP k.len i
                  have h := HNX.out
                  have hlen := HS5.out.ln
                  have hc := HCH2.out
                  unfold mP
                  rcases h with h | h
                  · rw [if_pos (by omega), if_neg (by omega)]; omega
                  · rw [if_neg (by omega), if_neg (by omega)]
                    cases is with
                    | nil => have e : y = -1 := hc; omega
                    | cons j js => obtain ⟨e, hj, _⟩ := hc; omega
end Go.Proofs.Ytjgpkolfcpoinaa.Mu

