/-
  The document's own answers for layer 4 (package usufructref04), walked: May, Solve; and what they need of layers 2 and 3.
-/
import Derived.Test.YtjgpkolfcpoinaaLeastGreat
namespace Go.Proofs.Ytjgpkolfcpoinaa.Mu
open Go.ChangeShapes Go.WideShapes Go.ChangeAt Go.RowKit Go.Shelf

set_option maxRecDepth 100000 in
set_option maxHeartbeats 1000000 in
theorem ris4_any (v c : Int) (w : World) : Calls Try.prog 67 #[.agg #[.int .i64 v, .int .u8 c]] w fun e w' => e = .returned (.bool (isB v c)) ∧ Bel w w' := by
  have E : Hid (isB v c = ((decide (c = 0) && (decide (0 ≤ v) && decide (v < 1048576))) || ((decide (1 ≤ c) && decide (c ≤ 3)) && decide (v = 0)))) := Lib.hid rfl
  go_enter Try.func67, Try.ntmps67
  go_wp2
  all_goals go_ret
  all_goals
    refine ⟨ret_bool ?_, (Bel.refl _).alloc _⟩
    clear E
    unfold isB isVarB isMultB
    first | (rw [Bool.eq_iff_iff]; simp only [Bool.or_eq_true, Bool.and_eq_true, decide_eq_true_eq, beq_iff_eq, Bool.false_eq_true, false_iff, true_iff]; omega) | (simp_all; done) | (simp_all; omega)

set_option maxRecDepth 100000 in
set_option maxHeartbeats 1000000 in
theorem rmay4_one (x : Iq) (w : World) : Calls Try.prog 43 #[.agg #[.int .i64 x.v, .int .u8 x.m, .int .u8 x.c, .int .i64 x.r]] w fun e w' => e = .returned (.bool x.may) ∧ Bel w w' := by
  obtain ⟨v, m, c, r⟩ := x
  show Calls _ _ #[.agg #[.int .i64 v, .int .u8 m, .int .u8 c, .int .i64 r]] w fun e w' => e = .returned (.bool (mayI v m c r)) ∧ Bel w w'
  cases hi : isB v m
  all_goals
    have E : Hid (mayI v m c r = ((isB v m && (decide (1 ≤ c) && decide (c ≤ 3))) && decide (-1 ≤ r) && decide (r < 1048576))) := Lib.hid rfl
    rw [hi] at E
    have HI : Hid (∀ W, Calls Try.prog 67 #[.agg #[.int .i64 v, .int .u8 m]] W fun e w' => e = .returned (.bool _) ∧ Bel W w') := Lib.hid fun W => by
      have h := ris4_any v m W; rw [hi] at h; exact h
    clear hi
    go_enter Try.func43, Try.ntmps43
    go_wp2_with fail
    refine (HI.out _).mono ?_
    rintro e w1 ⟨rfl, hb1⟩
    have HB1 : Hid (Bel w w1) := Lib.hid (((Bel.refl w).alloc _).on hb1)
    obtain ⟨k0, k1, k2, k3⟩ := cells4 (hb1.blk (blk1 w _))
    clear hb1
    go_wp2_with fail
    clear k0 k1 k2 k3
  all_goals
    go_ret
    refine ⟨ret_bool ?_, HB1.out⟩
    rw [E.out]
    clear E HI
    first | rfl | (simp_all; done) | (rw [Bool.eq_iff_iff]; simp only [Bool.and_eq_true, decide_eq_true_eq, Bool.false_eq_true, Bool.true_and, false_iff]; omega) | (simp_all; omega)

/-- One at an inequality over variables that have multiplicities. -/
theorem one4_any (x : Iq) (G : Option Addr) (gn gc : Nat) (sv : List Int) (hx : GoodQ sv.length x) (hs : ∀ v, v < sv.length → 1 ≤ sv[v]?.getD 0 ∧ sv[v]?.getD 0 ≤ 3) (b : Bool) (hb : b = true ↔ SatQ sv x) (w : World) (hg : RI .u8 w w.heap.size G gn sv) (hmax : gn ≤ 9223372036854775807) :
    Calls Try.prog 44 #[.agg #[.int .i64 x.v, .int .u8 x.m, .int .u8 x.c, .int .i64 x.r], .slice G gn gc] w fun e w' => e = .returned (.bool b) ∧ Bel w w' := by
  obtain ⟨v, m, c, r⟩ := x
  obtain ⟨hm, ⟨c1, c3⟩, hr⟩ := hx
  unfold SatQ lft at hb
  dsimp only at hm c1 c3 hr hb ⊢
  have HG := Lib.hid (hg.alloc (.cells #[.int .i64 v, .int .u8 m, .int .u8 c, .int .i64 r] 31))
  have HL := Lib.hid hg.len
  clear hg
  obtain ⟨l, hl⟩ : ∃ l, l = if m = 0 then sv[v.toNat]?.getD 0 else m := ⟨_, rfl⟩
  rw [← hl] at hb
  have hmc : (m = 0 ∧ 0 ≤ v ∧ v < sv.length) ∨ (1 ≤ m ∧ m ≤ 3) := hm
  clear hm
  rcases hmc with ⟨hm0, v0, v1⟩ | ⟨hm1, hm3⟩ <;> rcases hr with hr0 | ⟨r0, r1⟩
  case' inl.inl | inl.inr =>
    subst hm0
    rw [if_pos rfl] at hl
    have hlt : v < (gn : Int) := by have := HL.out; omega
    have hl1 := hs v.toNat (by omega)
    rw [← hl] at hl1
    obtain ⟨b1, off, eG, _, hcs⟩ := HG.out.at_ (by omega)
    subst eG
    have hcell := hcs v.toNat (by omega)
    rw [← hl] at hcell
    have HCS := Lib.hid hcs
    clear hl hcs
  case' inr.inl | inr.inr =>
    rw [if_neg (by omega)] at hl
    subst hl
    have hmz : (l == 0) = false := by rw [beq_eq_false_iff_ne]; omega
  case' inr.inr =>
    have hrt : r < (gn : Int) := by have := HL.out; omega
    obtain ⟨b1, off, eG, _, hcs⟩ := HG.out.at_ (by omega)
    subst eG
    have HCS := Lib.hid hcs
    clear hcs
  case' inl.inl | inr.inl =>
    subst hr0
    have HBB : Hid (b = decide (l ≤ c)) := Lib.hid (by rw [Bool.eq_iff_iff, hb]; simp)
  case' inl.inr | inr.inr =>
    have hrt : r < (gn : Int) := by have := HL.out; omega
    have hcell2 := HCS.out r.toNat (by omega)
    obtain ⟨q2, hq2⟩ : ∃ q, sv[r.toNat]?.getD 0 = q := ⟨_, rfl⟩
    rw [hq2] at hcell2 hb
    have HBB : Hid (b = (decide (l ≤ c) || decide (l ≤ q2))) := Lib.hid (by rw [Bool.eq_iff_iff, hb]; simp [r0])
    clear hq2
  all_goals
    clear hb hs
    go_enter Try.func44, Try.ntmps44
    go_wp2
    all_goals
      go_ret
      refine ⟨ret_bool ?_, (Bel.refl _).alloc _⟩
      rw [HBB.out]
      clear HBB
      first | (simp_all; done) | (rw [Bool.eq_iff_iff]; simp only [Bool.or_eq_true, decide_eq_true_eq]; omega) | (rw [Bool.eq_iff_iff]; simp; omega)

theorem mayF_zero {n : Int} {low : List Int} {xs : List Iq} (hn : n ≤ 1048576) (hl : xs.length ≤ 1048576) : mayF n low xs = 0 ↔ 0 ≤ n ∧ (low.length = 0 ∨ (low.length : Int) = n) ∧ low.any badM = false ∧ xs.any (badQ n) = false := by
  unfold mayF
  rw [if_neg (by omega)]
  by_cases h1 : n < 0 ∨ low.length ≠ 0 ∧ (low.length : Int) ≠ n
  · rw [if_pos h1]
    refine ⟨fun h => absurd h (by omega), fun ⟨h, h', _⟩ => ?_⟩
    omega
  · rw [if_neg h1]
    cases h2 : low.any badM
    · cases h3 : xs.any (badQ n)
      · simp only [Bool.false_eq_true, if_false, true_iff, and_self, and_true]; omega
      · simp
    · simp
theorem badQ_of {n : Int} {x : Iq} : badQ n x = false ↔ x.may = true ∧ ¬ (x.m = 0 ∧ n ≤ x.v) ∧ ¬ n ≤ x.r := by
  unfold badQ
  rw [Bool.or_eq_false_iff, Bool.or_eq_false_iff, Bool.not_eq_false', Bool.and_eq_false_iff, decide_eq_false_iff_not, decide_eq_false_iff_not, beq_eq_false_iff_ne]
  constructor
  · rintro ⟨⟨a, b⟩, c⟩
    exact ⟨a, fun ⟨h1, h2⟩ => b.elim (fun h => h h1) (fun h => h h2), c⟩
  · rintro ⟨a, b, c⟩
    refine ⟨⟨a, ?_⟩, c⟩
    by_cases h : x.m = 0
    · exact .inr (fun h2 => b ⟨h, h2⟩)
    · exact .inl h

set_option maxRecDepth 100000 in
set_option maxHeartbeats 2000000 in
theorem rmay4_any (n : Int) (G A : Option Addr) (ln lk len cap : Nat) (low : List Int) (xs : List Iq) (w : World) (hg : RI .u8 w w.heap.size G ln low) (hq : RQ w w.heap.size A len xs) (hn : n ≤ 1000) (hlm : ln ≤ 1000) (hqm : len ≤ 1000) :
    Calls Try.prog 20 #[.int .i64 n, .slice G ln lk, .slice A len cap] w fun e w' => e = .returned (.bool (decide (mayF n low xs = 0))) ∧ Bel w w' := by
  have HG := Lib.hid hg
  have HQ := Lib.hid hq
  have HLL := Lib.hid hg.len
  have HLQ := Lib.hid hq.len
  have hz := mayF_zero (n := n) (low := low) (xs := xs) (by omega) (by have := hq.len; omega)
  obtain ⟨b, hb⟩ : ∃ b, b = decide (mayF n low xs = 0) := ⟨_, rfl⟩
  rw [← hb]
  have HZ : Hid (b = true ↔ 0 ≤ n ∧ (low.length = 0 ∨ (low.length : Int) = n) ∧ low.any badM = false ∧ xs.any (badQ n) = false) := Lib.hid (by rw [hb, decide_eq_true_eq]; exact hz)
  have HNO : Hid (¬ (0 ≤ n ∧ (low.length = 0 ∨ (low.length : Int) = n) ∧ low.any badM = false ∧ xs.any (badQ n) = false) → b = false) := Lib.hid (fun h => by
    cases hb' : b
    · rfl
    · exact absurd (HZ.out.1 hb') h)
  clear hg hq hz hb
  by_cases h0 : n < 0
  · go_enter Try.func20, Try.ntmps20
    go_wp2
    go_ret
    exact ⟨ret_bool (HNO.out (fun h => absurd h.1 (by omega))).symm, Bel.refl _⟩
  have h0' : decide (n < 0) = false := by simpa using h0
  by_cases h1 : 0 < ln ∧ (ln : Int) ≠ n
  · obtain ⟨z1, z2⟩ := h1
    have z3 : (0 : Int) < (ln : Int) := by omega
    have z4 : ((ln : Int) != n) = true := by simpa using z2
    go_enter Try.func20, Try.ntmps20
    go_wp2
    go_ret
    exact ⟨ret_bool (HNO.out (fun h => by have := h.2.1; have := HLL.out; omega)).symm, Bel.refl _⟩
  have hln : ln = 0 ∨ (0 < ln ∧ (ln : Int) = n) := by omega
  clear h1
  rcases hln with z0 | ⟨z1, z2⟩
  case' inl =>
    have z1 : ¬ 0 < ln := by omega
    have z3 : decide ((0 : Int) < (ln : Int)) = false := by simp; omega
    have z4 : decide (0 < ln) = false := by simp; omega
    have HLN : Hid (low.length = 0 ∨ (low.length : Int) = n) := Lib.hid (by have := HLL.out; omega)
    clear z0
  case' inr =>
    have z3 : (0 : Int) < (ln : Int) := by omega
    have z4 : ((ln : Int) != n) = false := by simpa using z2
    have HLN : Hid (low.length = 0 ∨ (low.length : Int) = n) := Lib.hid (by have := HLL.out; omega)
    clear z2
  all_goals
    go_enter Try.func20, Try.ntmps20
    go_wp2_with fail
    go_loopw [7] (fun kv wr => ∃ k : Nat, k ≤ ln ∧ kv = .int .i64 (k : Int) ∧ Hid ((low.take k).any badM = false) ∧ Hid (Bel w wr)) (fun kv _ => ln - (intOf kv).toNat)
    case atStart => exact ⟨0, Nat.zero_le _, rfl, Lib.hid (by simp), Lib.hid (Bel.refl _)⟩
    case round =>
      obtain ⟨k, hk, rfl, HT, HBW⟩ := hrel
      by_cases hlt : k < ln
      case pos =>
        obtain ⟨g, off, eG, _, hc⟩ := (HG.out.bel HBW.out).at_ (by omega)
        obtain ⟨y, hy⟩ : ∃ y, low[k]? = some y := ⟨_, List.getElem?_eq_getElem (by rw [← HLL.out]; exact hlt)⟩
        have c0 := hc k hlt
        rw [hy, Option.getD_some] at c0
        have HY := Lib.hid hy
        have i1 : (0 : Int) ≤ (k : Int) := by omega
        have i2 : (k : Int) < (ln : Int) := by omega
        subst eG
        clear hc hy
        by_cases q1 : y < 1
        case pos =>
          go_wp2_with fail
          go_ret
          exact ⟨ret_bool (HNO.out (fun h => by
            have h2 := h.2.2.1
            rw [List.any_eq_false] at h2
            exact h2 y (List.mem_of_getElem? HY.out) (by simp [badM, q1]))).symm, HBW.out⟩
        case neg =>
          have q1' : decide (y < 1) = false := by simpa using q1
          by_cases q2 : 3 < y
          case pos =>
            go_wp2_with fail
            go_ret
            exact ⟨ret_bool (HNO.out (fun h => by
              have h2 := h.2.2.1
              rw [List.any_eq_false] at h2
              exact h2 y (List.mem_of_getElem? HY.out) (by simp [badM, q2]))).symm, HBW.out⟩
          case neg =>
            have q2' : decide (3 < y) = false := by simpa using q2
            go_wp2_with fail
            go_roundw
            case rel => exact ⟨k + 1, by omega, by go_num, Lib.hid (by rw [take_snoc_ HY.out, List.any_append, HT.out]; simp [badM]; omega), HBW⟩
            case measure => simp [intOf]; omega
      case neg =>
        obtain rfl : k = ln := by omega
        have HT2 : Hid (low.any badM = false) := Lib.hid (by have h := HT.out; rw [HLL.out, List.take_length] at h; exact h)
        go_wp2_with fail
        go_loopw [8] (fun kv wr => ∃ j : Nat, j ≤ len ∧ kv = .int .i64 (j : Int) ∧ Hid ((xs.take j).any (badQ n) = false) ∧ Hid (Bel w wr)) (fun kv _ => len - (intOf kv).toNat)
        case atStart => exact ⟨0, Nat.zero_le _, rfl, Lib.hid (by simp), HBW⟩
        case round =>
          obtain ⟨j, hj, rfl, HT3, HBX⟩ := hrel
          by_cases hlt : j < len
          case pos =>
            obtain ⟨x, hx⟩ : ∃ x, xs[j]? = some x := ⟨_, List.getElem?_eq_getElem (by rw [← HLQ.out]; exact hlt)⟩
            obtain ⟨qb, qo, eA, qlt, qc⟩ := (HQ.out.bel HBX.out).at_ (by omega)
            obtain ⟨c0, c1, c2, c3⟩ := qc j x hx
            have HX := Lib.hid hx
            have i1 : (0 : Int) ≤ (j : Int) := by omega
            have i2 : (j : Int) < (len : Int) := by omega
            subst eA
            clear qc hx
            have HBAD : Hid (badQ n x = true → b = false) := Lib.hid (fun hbq => HNO.out (fun h => by
              have h2 := h.2.2.2
              rw [List.any_eq_false] at h2
              exact h2 x (List.mem_of_getElem? HX.out) hbq))
            obtain ⟨mb, hmb⟩ : ∃ mb, mb = x.may := ⟨_, rfl⟩
            have HM : Hid (∀ W, Calls Try.prog 43 #[.agg #[.int .i64 x.v, .int .u8 x.m, .int .u8 x.c, .int .i64 x.r]] W fun e w' => e = .returned (.bool mb) ∧ Bel W w') := Lib.hid fun W => by
              have h := rmay4_one x W; rw [← hmb] at h; exact h
            have HMB := Lib.hid hmb
            clear hmb
            cases mb with
            | false =>
              go_wp2_with fail
              refine (HM.out _).mono ?_
              rintro e w2 ⟨rfl, hb2⟩
              have HB2 := Lib.hid (HBX.out.on hb2)
              clear hb2
              go_wp2_with fail
              go_ret
              exact ⟨ret_bool (HBAD.out (by unfold badQ; rw [← HMB.out]; rfl)).symm, HB2.out⟩
            | true =>
              go_wp2_with fail
              refine (HM.out _).mono ?_
              rintro e w2 ⟨rfl, hb2⟩
              have HB2 := Lib.hid (HBX.out.on hb2)
              have d0 := (hb2.cell (p := ⟨qb, qo + j * 4, none⟩) qlt).trans c0
              have d1 := (hb2.cell (p := ⟨qb, qo + j * 4 + 1, none⟩) qlt).trans c1
              have d3 := (hb2.cell (p := ⟨qb, qo + j * 4 + 3, none⟩) qlt).trans c3
              clear hb2 c0 c1 c2 c3
              have HEND : Hid (¬ (x.m = 0 ∧ n ≤ x.v) → ¬ n ≤ x.r → (xs.take (j + 1)).any (badQ n) = false) := Lib.hid (fun h1 h2 => by
                rw [take_snoc_ HX.out, List.any_append, HT3.out]
                have := badQ_of.2 ⟨HMB.out.symm, h1, h2⟩
                simp [this])
              have HBD : Hid ((x.m = 0 ∧ n ≤ x.v) ∨ n ≤ x.r → b = false) := Lib.hid (fun h => HBAD.out (by
                cases hq : badQ n x
                · have := badQ_of.1 hq
                  exfalso
                  rcases h with h | h
                  · exact this.2.1 h
                  · exact this.2.2 h
                · rfl))
              by_cases m0 : x.m = 0
              case pos =>
                have m0' : (x.m == 0) = true := by simpa using m0
                by_cases v0 : n ≤ x.v
                case pos =>
                  have v0' : decide (n ≤ x.v) = true := by simpa using v0
                  have HE := Lib.hid (HBD.out (.inl ⟨m0, v0⟩))
                  clear m0
                  go_wp2_with fail
                  go_ret
                  exact ⟨ret_bool HE.out.symm, HB2.out⟩
                case neg =>
                  have v0' : decide (n ≤ x.v) = false := by simpa using v0
                  by_cases r0 : n ≤ x.r
                  case pos =>
                    have r0' : decide (n ≤ x.r) = true := by simpa using r0
                    have HE := Lib.hid (HBD.out (.inr r0))
                    clear m0
                    go_wp2_with fail
                    go_ret
                    exact ⟨ret_bool HE.out.symm, HB2.out⟩
                  case neg =>
                    have r0' : decide (n ≤ x.r) = false := by simpa using r0
                    have HE := Lib.hid (HEND.out (fun h => v0 h.2) r0)
                    clear m0
                    go_wp2_with fail
                    go_roundw
                    case rel => exact ⟨j + 1, by omega, by go_num, HE, HB2⟩
                    case measure => simp [intOf]; omega
              case neg =>
                have m0' : (x.m == 0) = false := by simpa using m0
                by_cases r0 : n ≤ x.r
                case pos =>
                  have r0' : decide (n ≤ x.r) = true := by simpa using r0
                  have HE := Lib.hid (HBD.out (.inr r0))
                  go_wp2_with fail
                  go_ret
                  exact ⟨ret_bool HE.out.symm, HB2.out⟩
                case neg =>
                  have r0' : decide (n ≤ x.r) = false := by simpa using r0
                  have HE := Lib.hid (HEND.out (fun h => m0 h.1) r0)
                  go_wp2_with fail
                  go_roundw
                  case rel => exact ⟨j + 1, by omega, by go_num, HE, HB2⟩
                  case measure => simp [intOf]; omega
          case neg =>
            obtain rfl : j = len := by omega
            go_wp2_with fail
            go_ret
            exact ⟨ret_bool (HZ.out.2 ⟨by omega, HLN.out, HT2.out, by have h := HT3.out; rw [HLQ.out, List.take_length] at h; exact h⟩).symm, HBX.out⟩
end Go.Proofs.Ytjgpkolfcpoinaa.Mu

