/-
  The statements' own first question of layer 4.
  Holds, as the least solution's mathematics has it.
  What is more than is gone through; what LeastBelow's first loop asks.
  The document's own answers for layer 4 (package usufructref04), walked: May, Solve; and what they need of layers 2 and 3.
  The document's own answer for layer 4, walked: Solve.
  The statement LeastSolves: walked.
  Lists of inequalities: append of one behind the other; slices.Clone, slices.Delete.
  slices.Delete of one inequality out of a slice of the call's own.
-/
import Derived.Test.YtlbachjhhjjmfaaSolveA
import Derived.Deep.RegionLaw
import Derived.WalkSpells
import Derived.Test.YtlbachjhhjjmfaaMemBC
namespace Go.Proofs.Ytlbachjhhjjmfaa.Mu
open Go.ChangeShapes Go.WideShapes Go.ChangeAt Go.RowKit Go.Shelf

attribute [local go_sem] Oper.semAt_some

set_option maxHeartbeats 1000000 in
/-- slices.Equal at []api.Mult. -/
theorem mequal_any (A B : Option Addr) (n n2 c d : Nat) (xs ys : List Int) (w : World) (ha : RI .u8 w w.heap.size A n xs) (hb : RI .u8 w w.heap.size B n2 ys) (hn : n ≤ 1000000000) (hn2 : n2 ≤ 1000000000) :
    Calls Try.prog 26 #[.slice A n c, .slice B n2 d] w fun e w' => e = .returned (.bool (decide (xs = ys))) ∧ Bel w w' := by
  have HA := Lib.hid ha
  have HB := Lib.hid hb
  have HL := Lib.hid ha.len
  have HL2 := Lib.hid hb.len
  clear ha hb
  by_cases hnn : n = n2
  · subst hnn
    obtain ⟨r, hr⟩ : ∃ r, r = decide (xs = ys) := ⟨_, rfl⟩
    rw [← hr]
    have HR := Lib.hid hr
    clear hr
    go_enter Try.func26, Try.ntmps26
    go_wp2
    go_loopw [13] (fun i wr => ∃ k : Nat, k ≤ n ∧ i = .int .i64 (k : Int) ∧ Hid (xs.take k = ys.take k) ∧ Hid (Bel w wr)) (fun i _ => n - (intOf i).toNat)
    case atStart => exact ⟨0, Nat.zero_le _, rfl, Lib.hid (by simp), Lib.hid (Bel.refl _)⟩
    case round =>
      obtain ⟨k, hk, rfl, HT, HBW⟩ := hrel
      by_cases hlt : k < n
      · obtain ⟨b, off, eA, hb, hc⟩ := (HA.out.bel HBW.out).at_ (by omega)
        obtain ⟨b', off', eB, hb', hc'⟩ := (HB.out.bel HBW.out).at_ (by omega)
        subst eA
        subst eB
        obtain ⟨x, hxk⟩ : ∃ x, xs[k]? = some x := ⟨_, List.getElem?_eq_getElem (by rw [← HL.out]; exact hlt)⟩
        obtain ⟨y, hyk⟩ : ∃ y, ys[k]? = some y := ⟨_, List.getElem?_eq_getElem (by rw [← HL2.out]; exact hlt)⟩
        have c0 := hc k hlt
        have d0 := hc' k hlt
        rw [hxk, Option.getD_some] at c0
        rw [hyk, Option.getD_some] at d0
        have i1 : (0 : Int) ≤ (k : Int) := by omega
        have i2 : (k : Int) < (n : Int) := by omega
        have HX := Lib.hid hxk
        have HY := Lib.hid hyk
        clear hc hc' hxk hyk
        by_cases hxy : x = y
        · subst hxy
          go_wp2_with fail
          go_quiet (fail)
          go_wp2
          go_roundw
          case rel => exact ⟨k + 1, by omega, by go_num, Lib.hid (by rw [take_snoc_ HX.out, take_snoc_ HY.out, HT.out]), Lib.hid (HBW.out.drewN _)⟩
          case measure => simp [intOf]; omega
        · go_wp2_with fail
          go_quiet (fail)
          go_wp2
          go_ret
          have hf : r = false := by
            rw [HR.out]
            refine decide_eq_false fun e => hxy ?_
            have h1 := HX.out
            rw [e, HY.out] at h1
            exact (Option.some.inj h1).symm
          exact ⟨by rw [hf]; rfl, HBW.out.drewN _⟩
      · obtain rfl : k = n := by omega
        go_wp2
        go_ret
        have ht : r = true := by
          rw [HR.out]
          have h := HT.out
          rw [HL.out, List.take_length, ← HL.out, HL2.out, List.take_length] at h
          exact decide_eq_true h
        exact ⟨by rw [ht]; rfl, HBW.out⟩
  · have e : decide (xs = ys) = false := decide_eq_false fun e => hnn (by rw [HL.out, HL2.out, e])
    rw [e]
    have h1 : ((n : Int) == (n2 : Int)) = false := by simp; omega
    have h2 : ¬ (n : Int) = (n2 : Int) := by omega
    go_enter Try.func26, Try.ntmps26
    go_wp2
    go_ret
    exact ⟨rfl, Bel.refl _⟩

def three : List Iq := [⟨0, 2, 1, 0⟩, ⟨0, 0, 1, 1⟩, ⟨0, 0, 2, 2⟩]
theorem three_told {T : Option Nat × List Int × List Int} (h : Tells 3 [] three T) : T.1 = none ∧ T.2.1 = [2, 2, 1] := by
  obtain ⟨h1, h2⟩ := h.least [2, 2, 1] (by intro x hx; simp [three] at hx; rcases hx with rfl | rfl | rfl <;> simp [SatQ, lft]) (by
    intro v hv
    match v, hv with
    | 0, _ => simp [low0]
    | 1, _ => simp [low0]
    | 2, _ => simp [low0])
  obtain ⟨h3, h4, h5⟩ := h.solves h1
  refine ⟨h1, ?_⟩
  obtain ⟨t1, t2, t3⟩ := T
  dsimp only at *
  match t2, h3 with
  | [a, b, c], _ =>
    have s0 := h4 ⟨0, 2, 1, 0⟩ (by simp [three])
    have s1 := h4 ⟨0, 0, 1, 1⟩ (by simp [three])
    have u0 := h2 0 (by omega)
    have u1 := h2 1 (by omega)
    have u2 := h2 2 (by omega)
    have v2 := h5 2 (by omega)
    simp [SatQ, lft] at s0 s1 u0 u1 u2 v2
    have e0 : a = 2 := by omega
    have e1 : b = 2 := by omega
    have e2 : c = 1 := by omega
    rw [e0, e1, e2]
theorem rq_three (w : World) : RQ (w.alloc (.cells #[.int .i64 0, .int .u8 2, .int .u8 1, .int .i64 0, .int .i64 0, .int .u8 0, .int .u8 1, .int .i64 1, .int .i64 0, .int .u8 0, .int .u8 2, .int .i64 2] 34)) (w.heap.size + 1) (some ⟨w.heap.size, 0, none⟩) 3 three :=
  ⟨rfl, fun _ => ⟨_, 0, rfl, by omega, fun k x hx => by
    match k, hx with
    | 0, hx => simp [three] at hx; subst hx; simp
    | 1, hx => simp [three] at hx; subst hx; simp
    | 2, hx => simp [three] at hx; subst hx; simp⟩⟩
theorem ri_three (w : World) (x y z : Int) : RI .u8 (w.alloc (.cells #[.int .u8 x, .int .u8 y, .int .u8 z] 30)) (w.heap.size + 1) (some ⟨w.heap.size, 0, none⟩) 3 [x, y, z] :=
  ⟨rfl, fun _ => ⟨_, 0, rfl, by omega, fun k hk => by
    match k, hk with
    | 0, _ => simp
    | 1, _ => simp
    | 2, _ => simp⟩⟩

end Go.Proofs.Ytlbachjhhjjmfaa.Mu
namespace Go.Proofs.Ytlbachjhhjjmfaa.Mu
open Go

theorem none_idxF {p : Iq → Bool} : ∀ {xs : List Iq}, idxF p xs < 0 → ∀ x ∈ xs, p x = false
  | [], _, _, hx => by cases hx
  | y :: ys, h, x, hx => by
    have hge := idxF_ge p ys
    unfold idxF at h
    split at h
    · omega
    · rename_i hy
      split at h
      · rename_i h1
        rcases List.mem_cons.1 hx with rfl | hx
        · simpa using hy
        · exact none_idxF (by omega) x hx
      · omega
theorem may_cr {x : Iq} (h : x.may = true) : ((x.m = 0 ∧ 0 ≤ x.v) ∨ (1 ≤ x.m ∧ x.m ≤ 3)) ∧ 1 ≤ x.c ∧ x.c ≤ 3 ∧ -1 ≤ x.r := by
  unfold Iq.may mayI at h
  simp only [Bool.and_eq_true, decide_eq_true_eq] at h
  obtain ⟨⟨⟨hb, hc⟩, hr0⟩, _⟩ := h
  have hc' : 1 ≤ x.c ∧ x.c ≤ 3 := by simpa [isMultB] using hc
  refine ⟨?_, hc'.1, hc'.2, hr0⟩
  rcases isB_parts hb with ⟨e, v0, _⟩ | ⟨m1, m3, _⟩
  · exact .inl ⟨e, v0⟩
  · exact .inr ⟨m1, m3⟩
theorem bad_sat {S : List Int} {x : Iq} (h : x.may = true) : x.bad S = false ↔ SatQ S x := by
  obtain ⟨hm, c1, c3, r1⟩ := may_cr h
  unfold Iq.bad SatQ lft atS lcF lhB lvF rhB
  by_cases h0 : x.m = 0 <;> by_cases hr : x.r = -1 <;> simp [h0, hr] <;> omega
theorem stands_good {S : List Int} {x : Iq} (h : x.may = true) (hs : x.stands S = true) : GoodQ S.length x := by
  obtain ⟨hm, c1, c3, r1⟩ := may_cr h
  unfold Iq.stands standsB okV lhB lvF rhB at hs
  unfold GoodQ
  by_cases h0 : x.m = 0 <;> by_cases hr : x.r = -1 <;> simp [h0, hr] at hs ⊢ <;> omega
theorem good_stands {S : List Int} {x : Iq} (hg : GoodQ S.length x) (hS : ∀ v, v < S.length → 1 ≤ S[v]?.getD 0 ∧ S[v]?.getD 0 ≤ 3) : x.stands S = true := by
  have one : ∀ v : Int, 0 ≤ v → v < S.length → okV S v = true := fun v h0 h1 => by
    have := hS v.toNat (by omega)
    simp [okV, isMultB]
    omega
  obtain ⟨hm, _, hr⟩ := hg
  unfold Iq.stands standsB lhB lvF rhB
  by_cases h0 : x.m = 0
  · have h1 := one x.v (by rcases hm with h | h <;> omega) (by rcases hm with h | h <;> omega)
    by_cases h2 : x.r = -1
    · simp [h0, h1, h2]
    · simp [h0, h1, h2, one x.r (by omega) (by omega)]
  · by_cases h2 : x.r = -1
    · simp [h0, h2]
    · simp [h0, h2, one x.r (by omega) (by omega)]
theorem holds_parts {S : List Int} {xs : List Iq} (he : holdsE S xs = 0) (hn : holdsN S xs < 0) : ∀ x ∈ xs, x.may = true ∧ GoodQ S.length x ∧ SatQ S x := by
  unfold holdsE at he
  unfold holdsN at hn
  split at he
  · rename_i h1
    rw [if_pos h1] at hn
    split at he
    · rename_i h2
      rw [if_pos h2] at hn
      intro x hx
      have hm := List.all_eq_true.1 h1 x hx
      exact ⟨hm, stands_good hm (List.all_eq_true.1 h2 x hx), (bad_sat hm).1 (none_idxF hn x hx)⟩
    · cases he
  · cases he
theorem holds_of {S : List Int} {xs : List Iq} (hS : ∀ v, v < S.length → 1 ≤ S[v]?.getD 0 ∧ S[v]?.getD 0 ≤ 3) (h : ∀ x ∈ xs, x.may = true ∧ GoodQ S.length x ∧ SatQ S x) : holdsE S xs = 0 ∧ holdsN S xs = -1 := by
  have h1 : xs.all Iq.may = true := List.all_eq_true.2 fun x hx => (h x hx).1
  have h2 : xs.all (Iq.stands S) = true := List.all_eq_true.2 fun x hx => good_stands (h x hx).2.1 hS
  unfold holdsE holdsN
  rw [if_pos h1, if_pos h2, if_pos h1, if_pos h2]
  exact ⟨rfl, idxF_none (List.all_eq_true.2 fun x hx => by rw [(bad_sat (h x hx).1).2 (h x hx).2.2]; rfl)⟩
theorem mayF_ok {n : Nat} {low : List Int} {xs : List Iq} (hn : n ≤ 1048576) (hl : xs.length ≤ 1048576) (hlow : low.length = 0 ∨ low.length = n) (hm : ∀ m ∈ low, 1 ≤ m ∧ m ≤ 3) (hx : ∀ x ∈ xs, x.may = true ∧ GoodQ n x) : mayF n low xs = 0 := by
  unfold mayF
  rw [if_neg (by omega), if_neg (by omega), if_neg, if_neg]
  · intro h
    obtain ⟨x, hx1, hx2⟩ := List.any_eq_true.1 h
    obtain ⟨h1, h2, h3, h4⟩ := hx x hx1
    simp [badQ, h1] at hx2
    omega
  · intro h
    obtain ⟨m, hm1, hm2⟩ := List.any_eq_true.1 h
    have := hm m hm1
    simp [badM] at hm2
    omega
end Go.Proofs.Ytlbachjhhjjmfaa.Mu
namespace Go.Proofs.Ytlbachjhhjjmfaa.Mu
open Go.ChangeShapes Go.WideShapes Go.ChangeAt Go.RowKit Go.Shelf

attribute [local go_sem] Oper.semAt_some

/-- What the first loop asks of one variable. -/
def passB (low av : List Int) (j : Nat) : Bool := decide (1 ≤ av[j]?.getD 0) && decide (av[j]?.getD 0 ≤ 3) && (decide (low.length = 0) || (decide (1 ≤ low[j]?.getD 0) && decide (low[j]?.getD 0 ≤ av[j]?.getD 0)))

end Go.Proofs.Ytlbachjhhjjmfaa.Mu
namespace Go.Proofs.Ytlbachjhhjjmfaa.Mu
open Go.ChangeShapes Go.WideShapes Go.ChangeAt Go.RowKit Go.Shelf

set_option maxRecDepth 100000 in
set_option maxHeartbeats 1000000 in
theorem ris4_any (v c : Int) (w : World) : Calls Try.prog 59 #[.agg #[.int .i64 v, .int .u8 c]] w fun e w' => e = .returned (.bool (isB v c)) ∧ Bel w w' := by
  have E : Hid (isB v c = ((decide (c = 0) && (decide (0 ≤ v) && decide (v < 1048576))) || ((decide (1 ≤ c) && decide (c ≤ 3)) && decide (v = 0)))) := Lib.hid rfl
  go_enter Try.func59, Try.ntmps59
  go_wp2
  all_goals go_ret
  all_goals
    refine ⟨ret_bool ?_, (Bel.refl _).alloc _⟩
    clear E
    unfold isB isVarB isMultB
    first | (rw [Bool.eq_iff_iff]; simp only [Bool.or_eq_true, Bool.and_eq_true, decide_eq_true_eq, beq_iff_eq, Bool.false_eq_true, false_iff, true_iff]; omega) | (simp_all; done) | (simp_all; omega)

set_option maxRecDepth 100000 in
set_option maxHeartbeats 1000000 in
theorem rmay4_one (x : Iq) (w : World) : Calls Try.prog 31 #[.agg #[.int .i64 x.v, .int .u8 x.m, .int .u8 x.c, .int .i64 x.r]] w fun e w' => e = .returned (.bool x.may) ∧ Bel w w' := by
  obtain ⟨v, m, c, r⟩ := x
  show Calls _ _ #[.agg #[.int .i64 v, .int .u8 m, .int .u8 c, .int .i64 r]] w fun e w' => e = .returned (.bool (mayI v m c r)) ∧ Bel w w'
  cases hi : isB v m
  all_goals
    have E : Hid (mayI v m c r = ((isB v m && (decide (1 ≤ c) && decide (c ≤ 3))) && decide (-1 ≤ r) && decide (r < 1048576))) := Lib.hid rfl
    rw [hi] at E
    have HI : Hid (∀ W, Calls Try.prog 59 #[.agg #[.int .i64 v, .int .u8 m]] W fun e w' => e = .returned (.bool _) ∧ Bel W w') := Lib.hid fun W => by
      have h := ris4_any v m W; rw [hi] at h; exact h
    clear hi
    go_enter Try.func31, Try.ntmps31
    go_wp2_with fail
    refine (HI.out _).mono ?_
    rintro e w1 ⟨rfl, hb1⟩
    have HB1 : Hid (Bel w w1) := Lib.hid (((Bel.refl w).alloc _).on hb1)
    obtain ⟨k0, k1, k2, k3⟩ := cells4 (hb1.blk (blk1 w _))
    clear hb1
    go_wp2_with fail
    clear k0 k1 k2 k3
  all_goals
    go_ret
    refine ⟨ret_bool ?_, HB1.out⟩
    rw [E.out]
    clear E HI
    first | rfl | (simp_all; done) | (rw [Bool.eq_iff_iff]; simp only [Bool.and_eq_true, decide_eq_true_eq, Bool.false_eq_true, Bool.true_and, false_iff]; omega) | (simp_all; omega)

/-- One at an inequality over variables that have multiplicities. -/
theorem one4_any (x : Iq) (G : Option Addr) (gn gc : Nat) (sv : List Int) (hx : GoodQ sv.length x) (hs : ∀ v, v < sv.length → 1 ≤ sv[v]?.getD 0 ∧ sv[v]?.getD 0 ≤ 3) (b : Bool) (hb : b = true ↔ SatQ sv x) (w : World) (hg : RI .u8 w w.heap.size G gn sv) (hmax : gn ≤ 9223372036854775807) :
    Calls Try.prog 32 #[.agg #[.int .i64 x.v, .int .u8 x.m, .int .u8 x.c, .int .i64 x.r], .slice G gn gc] w fun e w' => e = .returned (.bool b) ∧ Bel w w' := by
  obtain ⟨v, m, c, r⟩ := x
  obtain ⟨hm, ⟨c1, c3⟩, hr⟩ := hx
  unfold SatQ lft at hb
  dsimp only at hm c1 c3 hr hb ⊢
  have HG := Lib.hid (hg.alloc (.cells #[.int .i64 v, .int .u8 m, .int .u8 c, .int .i64 r] 34))
  have HL := Lib.hid hg.len
  clear hg
  obtain ⟨l, hl⟩ : ∃ l, l = if m = 0 then sv[v.toNat]?.getD 0 else m := ⟨_, rfl⟩
  rw [← hl] at hb
  have hmc : (m = 0 ∧ 0 ≤ v ∧ v < sv.length) ∨ (1 ≤ m ∧ m ≤ 3) := hm
  clear hm
  rcases hmc with ⟨hm0, v0, v1⟩ | ⟨hm1, hm3⟩ <;> rcases hr with hr0 | ⟨r0, r1⟩
  case' inl.inl | inl.inr =>
    subst hm0
    rw [if_pos rfl] at hl
    have hlt : v < (gn : Int) := by have := HL.out; omega
    have hl1 := hs v.toNat (by omega)
    rw [← hl] at hl1
    obtain ⟨b1, off, eG, _, hcs⟩ := HG.out.at_ (by omega)
    subst eG
    have hcell := hcs v.toNat (by omega)
    rw [← hl] at hcell
    have HCS := Lib.hid hcs
    clear hl hcs
  case' inr.inl | inr.inr =>
    rw [if_neg (by omega)] at hl
    subst hl
    have hmz : (l == 0) = false := by rw [beq_eq_false_iff_ne]; omega
  case' inr.inr =>
    have hrt : r < (gn : Int) := by have := HL.out; omega
    obtain ⟨b1, off, eG, _, hcs⟩ := HG.out.at_ (by omega)
    subst eG
    have HCS := Lib.hid hcs
    clear hcs
  case' inl.inl | inr.inl =>
    subst hr0
    have HBB : Hid (b = decide (l ≤ c)) := Lib.hid (by rw [Bool.eq_iff_iff, hb]; simp)
  case' inl.inr | inr.inr =>
    have hrt : r < (gn : Int) := by have := HL.out; omega
    have hcell2 := HCS.out r.toNat (by omega)
    obtain ⟨q2, hq2⟩ : ∃ q, sv[r.toNat]?.getD 0 = q := ⟨_, rfl⟩
    rw [hq2] at hcell2 hb
    have HBB : Hid (b = (decide (l ≤ c) || decide (l ≤ q2))) := Lib.hid (by rw [Bool.eq_iff_iff, hb]; simp [r0])
    clear hq2
  all_goals
    clear hb hs
    go_enter Try.func32, Try.ntmps32
    go_wp2
    all_goals
      go_ret
      refine ⟨ret_bool ?_, (Bel.refl _).alloc _⟩
      rw [HBB.out]
      clear HBB
      first | (simp_all; done) | (rw [Bool.eq_iff_iff]; simp only [Bool.or_eq_true, decide_eq_true_eq]; omega) | (rw [Bool.eq_iff_iff]; simp; omega)

theorem mayF_zero {n : Int} {low : List Int} {xs : List Iq} (hn : n ≤ 1048576) (hl : xs.length ≤ 1048576) : mayF n low xs = 0 ↔ 0 ≤ n ∧ (low.length = 0 ∨ (low.length : Int) = n) ∧ low.any badM = false ∧ xs.any (badQ n) = false := by
  unfold mayF
  rw [if_neg (by omega)]
  by_cases h1 : n < 0 ∨ low.length ≠ 0 ∧ (low.length : Int) ≠ n
  · rw [if_pos h1]
    refine ⟨fun h => absurd h (by omega), fun ⟨h, h', _⟩ => ?_⟩
    omega
  · rw [if_neg h1]
    cases h2 : low.any badM
    · cases h3 : xs.any (badQ n)
      · simp only [Bool.false_eq_true, if_false, true_iff, and_self, and_true]; omega
      · simp
    · simp
theorem badQ_of {n : Int} {x : Iq} : badQ n x = false ↔ x.may = true ∧ ¬ (x.m = 0 ∧ n ≤ x.v) ∧ ¬ n ≤ x.r := by
  unfold badQ
  rw [Bool.or_eq_false_iff, Bool.or_eq_false_iff, Bool.not_eq_false', Bool.and_eq_false_iff, decide_eq_false_iff_not, decide_eq_false_iff_not, beq_eq_false_iff_ne]
  constructor
  · rintro ⟨⟨a, b⟩, c⟩
    exact ⟨a, fun ⟨h1, h2⟩ => b.elim (fun h => h h1) (fun h => h h2), c⟩
  · rintro ⟨a, b, c⟩
    refine ⟨⟨a, ?_⟩, c⟩
    by_cases h : x.m = 0
    · exact .inr (fun h2 => b ⟨h, h2⟩)
    · exact .inl h

set_option maxRecDepth 100000 in
set_option maxHeartbeats 2000000 in
theorem rmay4_any (n : Int) (G A : Option Addr) (ln lk len cap : Nat) (low : List Int) (xs : List Iq) (w : World) (hg : RI .u8 w w.heap.size G ln low) (hq : RQ w w.heap.size A len xs) (hn : n ≤ 1000) (hlm : ln ≤ 1000) (hqm : len ≤ 1000) :
    Calls Try.prog 14 #[.int .i64 n, .slice G ln lk, .slice A len cap] w fun e w' => e = .returned (.bool (decide (mayF n low xs = 0))) ∧ Bel w w' := by
  have HG := Lib.hid hg
  have HQ := Lib.hid hq
  have HLL := Lib.hid hg.len
  have HLQ := Lib.hid hq.len
  have hz := mayF_zero (n := n) (low := low) (xs := xs) (by omega) (by have := hq.len; omega)
  obtain ⟨b, hb⟩ : ∃ b, b = decide (mayF n low xs = 0) := ⟨_, rfl⟩
  rw [← hb]
  have HZ : Hid (b = true ↔ 0 ≤ n ∧ (low.length = 0 ∨ (low.length : Int) = n) ∧ low.any badM = false ∧ xs.any (badQ n) = false) := Lib.hid (by rw [hb, decide_eq_true_eq]; exact hz)
  have HNO : Hid (¬ (0 ≤ n ∧ (low.length = 0 ∨ (low.length : Int) = n) ∧ low.any badM = false ∧ xs.any (badQ n) = false) → b = false) := Lib.hid (fun h => by
    cases hb' : b
    · rfl
    · exact absurd (HZ.out.1 hb') h)
  clear hg hq hz hb
  by_cases h0 : n < 0
  · go_enter Try.func14, Try.ntmps14
    go_wp2
    go_ret
    exact ⟨ret_bool (HNO.out (fun h => absurd h.1 (by omega))).symm, Bel.refl _⟩
  have h0' : decide (n < 0) = false := by simpa using h0
  by_cases h1 : 0 < ln ∧ (ln : Int) ≠ n
  · obtain ⟨z1, z2⟩ := h1
    have z3 : (0 : Int) < (ln : Int) := by omega
    have z4 : ((ln : Int) != n) = true := by simpa using z2
    go_enter Try.func14, Try.ntmps14
    go_wp2
    go_ret
    exact ⟨ret_bool (HNO.out (fun h => by have := h.2.1; have := HLL.out; omega)).symm, Bel.refl _⟩
  have hln : ln = 0 ∨ (0 < ln ∧ (ln : Int) = n) := by omega
  clear h1
  rcases hln with z0 | ⟨z1, z2⟩
  case' inl =>
    have z1 : ¬ 0 < ln := by omega
    have z3 : decide ((0 : Int) < (ln : Int)) = false := by simp; omega
    have z4 : decide (0 < ln) = false := by simp; omega
    have HLN : Hid (low.length = 0 ∨ (low.length : Int) = n) := Lib.hid (by have := HLL.out; omega)
    clear z0
  case' inr =>
    have z3 : (0 : Int) < (ln : Int) := by omega
    have z4 : ((ln : Int) != n) = false := by simpa using z2
    have HLN : Hid (low.length = 0 ∨ (low.length : Int) = n) := Lib.hid (by have := HLL.out; omega)
    clear z2
  all_goals
    go_enter Try.func14, Try.ntmps14
    go_wp2_with fail
    go_loopw [7] (fun kv wr => ∃ k : Nat, k ≤ ln ∧ kv = .int .i64 (k : Int) ∧ Hid ((low.take k).any badM = false) ∧ Hid (Bel w wr)) (fun kv _ => ln - (intOf kv).toNat)
    case atStart => exact ⟨0, Nat.zero_le _, rfl, Lib.hid (by simp), Lib.hid (Bel.refl _)⟩
    case round =>
      obtain ⟨k, hk, rfl, HT, HBW⟩ := hrel
      by_cases hlt : k < ln
      case pos =>
        obtain ⟨g, off, eG, _, hc⟩ := (HG.out.bel HBW.out).at_ (by omega)
        obtain ⟨y, hy⟩ : ∃ y, low[k]? = some y := ⟨_, List.getElem?_eq_getElem (by rw [← HLL.out]; exact hlt)⟩
        have c0 := hc k hlt
        rw [hy, Option.getD_some] at c0
        have HY := Lib.hid hy
        have i1 : (0 : Int) ≤ (k : Int) := by omega
        have i2 : (k : Int) < (ln : Int) := by omega
        subst eG
        clear hc hy
        by_cases q1 : y < 1
        case pos =>
          go_wp2_with fail
          go_ret
          exact ⟨ret_bool (HNO.out (fun h => by
            have h2 := h.2.2.1
            rw [List.any_eq_false] at h2
            exact h2 y (List.mem_of_getElem? HY.out) (by simp [badM, q1]))).symm, HBW.out⟩
        case neg =>
          have q1' : decide (y < 1) = false := by simpa using q1
          by_cases q2 : 3 < y
          case pos =>
            go_wp2_with fail
            go_ret
            exact ⟨ret_bool (HNO.out (fun h => by
              have h2 := h.2.2.1
              rw [List.any_eq_false] at h2
              exact h2 y (List.mem_of_getElem? HY.out) (by simp [badM, q2]))).symm, HBW.out⟩
          case neg =>
            have q2' : decide (3 < y) = false := by simpa using q2
            go_wp2_with fail
            go_roundw
            case rel => exact ⟨k + 1, by omega, by go_num, Lib.hid (by rw [take_snoc_ HY.out, List.any_append, HT.out]; simp [badM]; omega), HBW⟩
            case measure => simp [intOf]; omega
      case neg =>
        obtain rfl : k = ln := by omega
        have HT2 : Hid (low.any badM = false) := Lib.hid (by have h := HT.out; rw [HLL.out, List.take_length] at h; exact h)
        go_wp2_with fail
        go_loopw [8] (fun kv wr => ∃ j : Nat, j ≤ len ∧ kv = .int .i64 (j : Int) ∧ Hid ((xs.take j).any (badQ n) = false) ∧ Hid (Bel w wr)) (fun kv _ => len - (intOf kv).toNat)
        case atStart => exact ⟨0, Nat.zero_le _, rfl, Lib.hid (by simp), HBW⟩
        case round =>
          obtain ⟨j, hj, rfl, HT3, HBX⟩ := hrel
          by_cases hlt : j < len
          case pos =>
            obtain ⟨x, hx⟩ : ∃ x, xs[j]? = some x := ⟨_, List.getElem?_eq_getElem (by rw [← HLQ.out]; exact hlt)⟩
            obtain ⟨qb, qo, eA, qlt, qc⟩ := (HQ.out.bel HBX.out).at_ (by omega)
            obtain ⟨c0, c1, c2, c3⟩ := qc j x hx
            have HX := Lib.hid hx
            have i1 : (0 : Int) ≤ (j : Int) := by omega
            have i2 : (j : Int) < (len : Int) := by omega
            subst eA
            clear qc hx
            have HBAD : Hid (badQ n x = true → b = false) := Lib.hid (fun hbq => HNO.out (fun h => by
              have h2 := h.2.2.2
              rw [List.any_eq_false] at h2
              exact h2 x (List.mem_of_getElem? HX.out) hbq))
            obtain ⟨mb, hmb⟩ : ∃ mb, mb = x.may := ⟨_, rfl⟩
            have HM : Hid (∀ W, Calls Try.prog 31 #[.agg #[.int .i64 x.v, .int .u8 x.m, .int .u8 x.c, .int .i64 x.r]] W fun e w' => e = .returned (.bool mb) ∧ Bel W w') := Lib.hid fun W => by
              have h := rmay4_one x W; rw [← hmb] at h; exact h
            have HMB := Lib.hid hmb
            clear hmb
            cases mb with
            | false =>
              go_wp2_with fail
              refine (HM.out _).mono ?_
              rintro e w2 ⟨rfl, hb2⟩
              have HB2 := Lib.hid (HBX.out.on hb2)
              clear hb2
              go_wp2_with fail
              go_ret
              exact ⟨ret_bool (HBAD.out (by unfold badQ; rw [← HMB.out]; rfl)).symm, HB2.out⟩
            | true =>
              go_wp2_with fail
              refine (HM.out _).mono ?_
              rintro e w2 ⟨rfl, hb2⟩
              have HB2 := Lib.hid (HBX.out.on hb2)
              have d0 := (hb2.cell (p := ⟨qb, qo + j * 4, none⟩) qlt).trans c0
              have d1 := (hb2.cell (p := ⟨qb, qo + j * 4 + 1, none⟩) qlt).trans c1
              have d3 := (hb2.cell (p := ⟨qb, qo + j * 4 + 3, none⟩) qlt).trans c3
              clear hb2 c0 c1 c2 c3
              have HEND : Hid (¬ (x.m = 0 ∧ n ≤ x.v) → ¬ n ≤ x.r → (xs.take (j + 1)).any (badQ n) = false) := Lib.hid (fun h1 h2 => by
                rw [take_snoc_ HX.out, List.any_append, HT3.out]
                have := badQ_of.2 ⟨HMB.out.symm, h1, h2⟩
                simp [this])
              have HBD : Hid ((x.m = 0 ∧ n ≤ x.v) ∨ n ≤ x.r → b = false) := Lib.hid (fun h => HBAD.out (by
                cases hq : badQ n x
                · have := badQ_of.1 hq
                  exfalso
                  rcases h with h | h
                  · exact this.2.1 h
                  · exact this.2.2 h
                · rfl))
              by_cases m0 : x.m = 0
              case pos =>
                have m0' : (x.m == 0) = true := by simpa using m0
                by_cases v0 : n ≤ x.v
                case pos =>
                  have v0' : decide (n ≤ x.v) = true := by simpa using v0
                  have HE := Lib.hid (HBD.out (.inl ⟨m0, v0⟩))
                  clear m0
                  go_wp2_with fail
                  go_ret
                  exact ⟨ret_bool HE.out.symm, HB2.out⟩
                case neg =>
                  have v0' : decide (n ≤ x.v) = false := by simpa using v0
                  by_cases r0 : n ≤ x.r
                  case pos =>
                    have r0' : decide (n ≤ x.r) = true := by simpa using r0
                    have HE := Lib.hid (HBD.out (.inr r0))
                    clear m0
                    go_wp2_with fail
                    go_ret
                    exact ⟨ret_bool HE.out.symm, HB2.out⟩
                  case neg =>
                    have r0' : decide (n ≤ x.r) = false := by simpa using r0
                    have HE := Lib.hid (HEND.out (fun h => v0 h.2) r0)
                    clear m0
                    go_wp2_with fail
                    go_roundw
                    case rel => exact ⟨j + 1, by omega, by go_num, HE, HB2⟩
                    case measure => simp [intOf]; omega
              case neg =>
                have m0' : (x.m == 0) = false := by simpa using m0
                by_cases r0 : n ≤ x.r
                case pos =>
                  have r0' : decide (n ≤ x.r) = true := by simpa using r0
                  have HE := Lib.hid (HBD.out (.inr r0))
                  go_wp2_with fail
                  go_ret
                  exact ⟨ret_bool HE.out.symm, HB2.out⟩
                case neg =>
                  have r0' : decide (n ≤ x.r) = false := by simpa using r0
                  have HE := Lib.hid (HEND.out (fun h => m0 h.1) r0)
                  go_wp2_with fail
                  go_roundw
                  case rel => exact ⟨j + 1, by omega, by go_num, HE, HB2⟩
                  case measure => simp [intOf]; omega
          case neg =>
            obtain rfl : j = len := by omega
            go_wp2_with fail
            go_ret
            exact ⟨ret_bool (HZ.out.2 ⟨by omega, HLN.out, HT2.out, by have h := HT3.out; rw [HLQ.out, List.take_length] at h; exact h⟩).symm, HBX.out⟩
end Go.Proofs.Ytlbachjhhjjmfaa.Mu
namespace Go.Proofs.Ytlbachjhhjjmfaa.Mu
open Go.ChangeShapes Go.WideShapes Go.ChangeAt Go.RowKit Go.Shelf

attribute [local go_sem] Oper.semAt_some

/-- What is told: the least solution, or that there is none. -/
def RPost (T : Option Nat × List Int × List Int) (n : Nat) (w : World) (e : Ending) (w' : World) : Prop :=
  match T.1 with
  | none => ∃ A c, e = .returned (.tuple #[.slice A n c, .bool true]) ∧ RI .u8 w' w'.heap.size A n T.2.1 ∧ Bel w w'
  | some _ => e = .returned (.tuple #[.slice none 0 0, .bool false]) ∧ Bel w w'

/-- The multiplicities while they are raised. -/
structure Rising (n : Nat) (low : List Int) (T : Option Nat × List Int × List Int) (sv : List Int) : Prop where
  len : sv.length = n
  each : ∀ v, v < n → 1 ≤ sv[v]?.getD 0 ∧ sv[v]?.getD 0 ≤ 3 ∧ (low0 n low)[v]?.getD 0 ≤ sv[v]?.getD 0
  below : T.1 = none → ∀ v, v < n → sv[v]?.getD 0 ≤ T.2.1[v]?.getD 0
/-- How much there is still to raise. -/
def rest (sv : List Int) : Nat := (sv.map fun x => (3 - x).toNat).sum
theorem rest_set {sv : List Int} {r : Nat} {x : Int} (hr : r < sv.length) (h : sv[r]?.getD 0 < x) (hx : x ≤ 3) : rest (sv.set r x) < rest sv := by
  unfold rest
  induction sv generalizing r with
  | nil => simp at hr
  | cons a sv ih =>
    cases r with
    | zero =>
      simp only [List.getElem?_cons_zero, Option.getD_some] at h
      simp only [List.set_cons_zero, List.map_cons, List.sum_cons]
      omega
    | succ r =>
      simp only [List.getElem?_cons_succ] at h
      have := ih (r := r) (by simpa using hr) h
      simp only [List.set_cons_succ, List.map_cons, List.sum_cons]
      omega
/-- The same, off memory. -/
def restW (A : Option Addr) (n : Nat) (w : World) : Nat := match A with
  | some g => rest ((List.range n).map fun j => match w.cell? ⟨g.block, j, none⟩ with
    | some (.int _ x) => x
    | _ => 0)
  | none => 0
theorem restW_eq {w : World} {base e : Nat} {A : Option Addr} {n c : Nat} {sv : List Int} (h : w.ownsRow base e 1 (.slice A n c) n (sv.map (Value.int .u8))) : restW A n w = rest sv := by
  have hl : sv.length = n := by simpa using h.1
  rcases Nat.eq_zero_or_pos n with h0 | h0
  · subst h0
    obtain rfl : sv = [] := List.eq_nil_of_length_eq_zero hl
    unfold restW
    cases A <;> rfl
  · obtain ⟨b, off, eA, _, hc⟩ := (RI.of_own h).at_ h0
    obtain ⟨g, cap, hv, _, _⟩ := h.form h0
    subst eA
    injection hv with e1 e2 e3
    injection e1 with e1
    injection e1 with e1 e2
    subst e1 e2
    unfold restW
    dsimp only
    congr 1
    apply List.ext_getElem?
    intro j
    by_cases hj : j < n
    · have := hc j hj
      rw [Nat.zero_add] at this
      simp only [List.getElem?_map, List.getElem?_range hj, Option.map_some, this]
      rw [List.getElem?_eq_getElem (by omega)]
      rfl
    · rw [List.getElem?_eq_none (by simp; omega), List.getElem?_eq_none (by omega)]
theorem low0_get {n : Nat} {low : List Int} (hl : low.length = 0 ∨ low.length = n) {v : Nat} (hv : v < n) : (low0 n low)[v]? = some (if low.length = 0 then 1 else low[v]?.getD 0) := by
  unfold low0
  by_cases h : low.length = 0
  · rw [if_pos h, if_pos h]
    simp [hv]
  · rw [if_neg h, if_neg h, List.getElem?_eq_getElem (by omega)]
    rfl
theorem rising_start {n : Nat} {low : List Int} {xs : List Iq} {T : Option Nat × List Int × List Int} (hT : Tells n low xs T) (hl : low.length = 0 ∨ low.length = n) (hm : ∀ m ∈ low, 1 ≤ m ∧ m ≤ 3) : Rising n low T (low0 n low) := by
  have hlen : (low0 n low).length = n := by unfold low0; split <;> (try simp) <;> omega
  refine ⟨hlen, fun v hv => ?_, fun h v hv => ((hT.solves h).2.2 v hv).2.2⟩
  rw [low0_get hl hv, Option.getD_some]
  split
  · omega
  · have hv' : v < low.length := by omega
    have := hm _ (List.getElem_mem hv')
    rw [List.getElem?_eq_getElem hv', Option.getD_some]
    omega
/-- One that does not hold, with a variable R: R is raised to L. -/
theorem rising_set {n : Nat} {low : List Int} {xs : List Iq} {T : Option Nat × List Int × List Int} (hT : Tells n low xs T) {sv : List Int} (h : Rising n low T sv) {x : Iq} (hx : x ∈ xs) (hg : GoodQ n x) (hn : ¬ SatQ sv x) (hr : 0 ≤ x.r) : Rising n low T (sv.set x.r.toNat (lft sv x)) ∧ rest (sv.set x.r.toNat (lft sv x)) < rest sv := by
  have hrn : x.r.toNat < n := by rcases hg.2.2 with h | h <;> omega
  have hlen := h.len
  have hl : 1 ≤ lft sv x ∧ lft sv x ≤ 3 := by
    unfold lft
    by_cases h0 : x.m = 0
    · rw [if_pos h0]
      have := h.each x.v.toNat (by rcases hg.1 with h | h <;> omega)
      omega
    · rw [if_neg h0]; rcases hg.1 with h | h <;> omega
  have hlt : sv[x.r.toNat]?.getD 0 < lft sv x := by
    rcases Int.lt_or_le (sv[x.r.toNat]?.getD 0) (lft sv x) with h' | h'
    · exact h'
    · exact absurd (.inr ⟨hr, h'⟩) hn
  have hcl : ¬ lft sv x ≤ x.c := fun h' => hn (.inl h')
  refine ⟨⟨by simpa using hlen, fun v hv => ?_, fun ht v hv => ?_⟩, rest_set (by omega) hlt hl.2⟩
  · have := h.each v hv
    by_cases e : x.r.toNat = v
    · rw [e, List.getElem?_set_self (by omega), Option.getD_some]
      rw [e] at hlt
      omega
    · rw [List.getElem?_set_ne e]
      exact this
  · have hle : lft sv x ≤ lft T.2.1 x := by
      unfold lft
      by_cases h0 : x.m = 0
      · rw [if_pos h0, if_pos h0]
        exact h.below ht _ (by rcases hg.1 with h | h <;> omega)
      · rw [if_neg h0, if_neg h0]; omega
    by_cases e : x.r.toNat = v
    · rw [e, List.getElem?_set_self (by omega), Option.getD_some]
      rcases (hT.solves ht).2.1 x hx with h1 | ⟨_, h1⟩
      · omega
      · rw [e] at h1; omega
    · rw [List.getElem?_set_ne e]
      exact h.below ht v hv
/-- One that does not hold, without R: there is no solution. -/
theorem rising_no {n : Nat} {low : List Int} {xs : List Iq} {T : Option Nat × List Int × List Int} (hT : Tells n low xs T) {sv : List Int} (h : Rising n low T sv) {x : Iq} (hx : x ∈ xs) (hg : GoodQ n x) (hn : ¬ SatQ sv x) (hr : x.r < 0) : T.1 ≠ none := by
  intro ht
  have hle : lft sv x ≤ lft T.2.1 x := by
    unfold lft
    by_cases h0 : x.m = 0
    · rw [if_pos h0, if_pos h0]
      exact h.below ht _ (by rcases hg.1 with h | h <;> omega)
    · rw [if_neg h0, if_neg h0]; omega
  have hcl : ¬ lft sv x ≤ x.c := fun h' => hn (.inl h')
  rcases (hT.solves ht).2.1 x hx with h1 | ⟨h1, _⟩ <;> omega
theorem rising_end {n : Nat} {low : List Int} {xs : List Iq} {T : Option Nat × List Int × List Int} (hT : Tells n low xs T) {sv : List Int} (h : Rising n low T sv) (hs : ∀ x ∈ xs, SatQ sv x) : T.1 = none ∧ T.2.1 = sv := by
  obtain ⟨h1, h2⟩ := hT.least sv hs (fun v hv => (h.each v hv).2.2)
  refine ⟨h1, ?_⟩
  have h3 := (hT.solves h1).1
  apply List.ext_getElem?
  intro v
  by_cases hv : v < n
  · have e1 : T.2.1[v]? = some (T.2.1[v]?.getD 0) := by rw [List.getElem?_eq_getElem (by omega)]; rfl
    have e2 : sv[v]? = some (sv[v]?.getD 0) := by rw [List.getElem?_eq_getElem (by have := h.len; omega)]; rfl
    have := h2 v hv
    have := h.below h1 v hv
    rw [e1, e2]
    congr 1
    omega
  · rw [List.getElem?_eq_none (by omega), List.getElem?_eq_none (by have := h.len; omega)]
/-- How far a round over the inequalities has come. -/
def Gone (xs : List Iq) (sv sv' : List Int) (mo : Bool) (k : Nat) : Prop := (mo = false → sv' = sv ∧ ∀ x ∈ xs.take k, SatQ sv x) ∧ (mo = true → rest sv' < rest sv) ∧ rest sv' ≤ rest sv
theorem gone_hold {xs : List Iq} {sv sv' : List Int} {mo : Bool} {k : Nat} {x : Iq} (h : Gone xs sv sv' mo k) (hx : xs[k]? = some x) (hs : SatQ sv' x) : Gone xs sv sv' mo (k + 1) := by
  refine ⟨fun hm => ?_, h.2.1, h.2.2⟩
  obtain ⟨e, hk⟩ := h.1 hm
  refine ⟨e, fun y hy => ?_⟩
  rw [take_snoc_ hx] at hy
  rcases List.mem_append.1 hy with hy | hy
  · exact hk y hy
  · rw [List.mem_singleton.1 hy, ← e]; exact hs
theorem gone_set {xs : List Iq} {sv sv' sv2 : List Int} {mo : Bool} {k : Nat} (h : Gone xs sv sv' mo k) (hlt : rest sv2 < rest sv') : Gone xs sv sv2 true (k + 1) :=
  ⟨(fun hm => by cases hm), (fun _ => by have := h.2.2; omega), by have := h.2.2; omega⟩

set_option maxRecDepth 100000 in
set_option maxHeartbeats 4000000 in
theorem rsolve4_any (n : Nat) (G A : Option Addr) (ln lk len cap : Nat) (low : List Int) (xs : List Iq) (T : Option Nat × List Int × List Int) (hT : Tells n low xs T) (hm : mayF n low xs = 0) (w : World) (hg : RI .u8 w w.heap.size G ln low) (hq : RQ w w.heap.size A len xs) (hn : n ≤ 1000) (hlm : ln ≤ 1000) (hqm : len ≤ 1000) :
    Calls Try.prog 15 #[.int .i64 n, .slice G ln lk, .slice A len cap] w (RPost T n w) := by
  have HG := Lib.hid hg
  have HQ := Lib.hid hq
  have HLL := Lib.hid hg.len
  have HLQ := Lib.hid hq.len
  obtain ⟨N, hN, _, _, lw, lr, good⟩ := may_good hm
  obtain rfl : n = N := by omega
  have HLW := Lib.hid lw
  have HR0 := Lib.hid (rising_start hT lw lr)
  have HGOOD := Lib.hid good
  have HT := Lib.hid hT
  clear hg hq hT hm hN lw lr good
  go_enter Try.func15, Try.ntmps15
  go_wp2_with fail
  go_loopw [8, 9] (fun sl kv wr => ∃ (k c : Nat) (V : Option Addr), k ≤ n ∧ kv = .int .i64 (k : Int) ∧ sl = .slice V k c ∧ Hid (wr.ownsRow w.heap.size 30 1 (.slice V k c) k (((low0 n low).take k).map (Value.int .u8))) ∧ Hid (Bel w wr)) (fun _ kv _ => n - (intOf kv).toNat)
  case atStart => exact ⟨0, 0, none, Nat.zero_le _, rfl, rfl, Lib.hid (World.ownsRow_nil _ _ _ _), Lib.hid (Bel.refl _)⟩
  case round =>
    obtain ⟨k, c, V, hk, rfl, rfl, HOW, HBW⟩ := hrel
    have HSZ : Hid (w.heap.size ≤ wr.heap.size) := Lib.hid HBW.out.size
    by_cases hlt : k < n
    case pos =>
      have i1 : (0 : Int) ≤ (k : Int) := by omega
      have i2 : (k : Int) < (n : Int) := by omega
      by_cases z : 0 < ln
      case pos =>
        obtain ⟨b, off, eG, _, hc⟩ := (HG.out.bel HBW.out).at_ z
        have hle : ln = n := by have := HLW.out; have := HLL.out; omega
        have c0 := hc k (by omega)
        obtain ⟨y, hy⟩ : ∃ y, low[k]?.getD 0 = y := ⟨_, rfl⟩
        rw [hy] at c0
        have HY : Hid ((low0 n low)[k]? = some y) := Lib.hid (by rw [low0_get HLW.out hlt, if_neg (by have := HLL.out; omega), hy])
        have z3 : (0 : Int) < (ln : Int) := by omega
        have i3 : (k : Int) < (ln : Int) := by omega
        subst eG
        clear hc hy hle
        go_wp2_with (at_builtin; refine wpList_append_one rfl _ _ 23 rfl w.heap.size 30 _ 1 1 Try.underlying23 info_mu8 rfl (by decide) (by decide) V k c _ rfl (HOW.out.alloc _) wr.heap.size [.int .u8 y] rfl rfl (one_cell_at _ _ _) (by simp [Value.oneCell']) (by omega) (by have := HSZ.out; simp; omega) ?_; intro V3 cv3 w5 hown5 hg5)
        go_roundw
        case rel => exact ⟨k + 1, cv3, V3, by omega, by go_num, rfl, Lib.hid (by rw [take_snoc_ HY.out, List.map_append]; exact hown5), Lib.hid (Below.grown (HBW.out.alloc _) hg5 (by have := HSZ.out; simp; omega) (fun x hx => (HOW.out.lt x hx).1))⟩
        case measure => simp [intOf]; omega
      case neg =>
        have z3 : decide ((0 : Int) < (ln : Int)) = false := by simp; omega
        have HY : Hid ((low0 n low)[k]? = some 1) := Lib.hid (by rw [low0_get HLW.out hlt, if_pos (by have := HLL.out; omega)])
        go_wp2_with (at_builtin; refine wpList_append_one rfl _ _ 23 rfl w.heap.size 30 _ 1 1 Try.underlying23 info_mu8 rfl (by decide) (by decide) V k c _ rfl (HOW.out.alloc _) wr.heap.size [.int .u8 1] rfl rfl (one_cell_at _ _ _) (by simp [Value.oneCell']) (by omega) (by have := HSZ.out; simp; omega) ?_; intro V3 cv3 w5 hown5 hg5)
        go_roundw
        case rel => exact ⟨k + 1, cv3, V3, by omega, by go_num, rfl, Lib.hid (by rw [take_snoc_ HY.out, List.map_append]; exact hown5), Lib.hid (Below.grown (HBW.out.alloc _) hg5 (by have := HSZ.out; simp; omega) (fun x hx => (HOW.out.lt x hx).1))⟩
        case measure => simp [intOf]; omega
    case neg =>
      obtain rfl : k = n := by omega
      have HO2 : Hid (wr.ownsRow w.heap.size 30 1 (.slice V k c) k ((low0 k low).map (Value.int .u8))) := Lib.hid (by
        have h := HOW.out
        rwa [List.take_of_length_le (by rw [HR0.out.len]; exact Nat.le_refl _)] at h)
      clear HOW
      go_wp2_with fail
      go_loopw [] (fun wo => ∃ sv : List Int, Hid (Rising k low T sv) ∧ Hid (wo.ownsRow w.heap.size 30 1 (.slice V k c) k (sv.map (Value.int .u8))) ∧ Hid (Bel w wo)) (fun wo => restW V k wo)
      case atStart => exact ⟨_, HR0, HO2, HBW⟩
      case round =>
        clear HO2 HBW HSZ HR0
        obtain ⟨sv, HRS, HOS, HBO⟩ := hrel
        obtain ⟨wo, rfl⟩ : ∃ wo : World, wo = wr := ⟨_, rfl⟩
        go_wp2_with fail
        go_loopw [10, 11] (fun mv kv wi => ∃ (mo : Bool) (j : Nat) (sv' : List Int), j ≤ len ∧ mv = .bool mo ∧ kv = .int .i64 (j : Int) ∧ Hid (Rising k low T sv') ∧ Hid (wi.ownsRow w.heap.size 30 1 (.slice V k c) k (sv'.map (Value.int .u8))) ∧ Hid (Gone xs sv sv' mo j) ∧ Hid (Bel w wi)) (fun _ kv _ => len - (intOf kv).toNat)
        case atStart => exact ⟨false, 0, sv, Nat.zero_le _, rfl, rfl, HRS, HOS, Lib.hid ⟨(fun _ => ⟨rfl, fun x hx => by simp at hx⟩), (fun h => by cases h), Nat.le_refl _⟩, HBO⟩
        case round =>
          obtain ⟨mo, j, sv', hj, rfl, rfl, HRS', HOS', HGO, HBI⟩ := hrel
          obtain ⟨wi, rfl⟩ : ∃ wi : World, wi = wr := ⟨_, rfl⟩
          by_cases hlt : j < len
          case pos =>
            obtain ⟨x, hx⟩ : ∃ x, xs[j]? = some x := ⟨_, List.getElem?_eq_getElem (by rw [← HLQ.out]; exact hlt)⟩
            obtain ⟨qb, qo, eA, qlt, qc⟩ := (HQ.out.bel HBI.out).at_ (by omega)
            obtain ⟨c0, c1, c2, c3⟩ := qc j x hx
            have HX := Lib.hid hx
            have HXM := Lib.hid (List.mem_of_getElem? hx)
            have HGX := Lib.hid (HGOOD.out x (List.mem_of_getElem? hx))
            have i1 : (0 : Int) ≤ (j : Int) := by omega
            have i2 : (j : Int) < (len : Int) := by omega
            subst eA
            clear qc hx
            by_cases hs : SatQ sv' x
            case pos =>
              have H1 : Hid (∀ W, Bel wi W → Calls Try.prog 32 #[.agg #[.int .i64 x.v, .int .u8 x.m, .int .u8 x.c, .int .i64 x.r], .slice V k c] W fun e w' => e = .returned (.bool true) ∧ Bel W w') := Lib.hid fun W hW =>
                one4_any x V k c sv' (by rw [HRS'.out.len]; exact HGX.out) (fun v hv => by have := HRS'.out.each v (by rw [← HRS'.out.len]; exact hv); omega) true (by simp [hs]) W ((RI.of_own HOS'.out).bel hW) (by omega)
              have HGO2 := Lib.hid (gone_hold HGO.out HX.out hs)
              clear hs
              go_wp2_with fail
              refine (H1.out _ (Bel.refl _)).mono ?_
              rintro e w2 ⟨rfl, hb2⟩
              have HB2 := Lib.hid (HBI.out.on hb2)
              have HO2 := Lib.hid (owns_bel HOS'.out hb2)
              clear hb2
              go_wp2_with fail
              go_roundw
              case rel => exact ⟨mo, j + 1, sv', by omega, rfl, by go_num, HRS', HO2, HGO2, HB2⟩
              case measure => simp [intOf]; omega
            case neg =>
              have H1 : Hid (∀ W, Bel wi W → Calls Try.prog 32 #[.agg #[.int .i64 x.v, .int .u8 x.m, .int .u8 x.c, .int .i64 x.r], .slice V k c] W fun e w' => e = .returned (.bool false) ∧ Bel W w') := Lib.hid fun W hW =>
                one4_any x V k c sv' (by rw [HRS'.out.len]; exact HGX.out) (fun v hv => by have := HRS'.out.each v (by rw [← HRS'.out.len]; exact hv); omega) false (by simp [hs]) W ((RI.of_own HOS'.out).bel hW) (by omega)
              have HS := Lib.hid hs
              clear hs
              go_wp2_with fail
              refine (H1.out _ (Bel.refl _)).mono ?_
              rintro e w2 ⟨rfl, hb2⟩
              have HB2 := Lib.hid (HBI.out.on hb2)
              have HO2 := Lib.hid (owns_bel HOS'.out hb2)
              have d0 := (hb2.cell (p := ⟨qb, qo + j * 4, none⟩) qlt).trans c0
              have d1 := (hb2.cell (p := ⟨qb, qo + j * 4 + 1, none⟩) qlt).trans c1
              have d3 := (hb2.cell (p := ⟨qb, qo + j * 4 + 3, none⟩) qlt).trans c3
              clear hb2 c0 c1 c2 c3
              by_cases r0 : x.r < 0
              case pos =>
                have HNT := Lib.hid (rising_no HT.out HRS'.out HXM.out HGX.out HS.out r0)
                go_wp2_with fail
                go_ret2
                unfold RPost
                cases ht : T.1 with
                | none => exact absurd ht HNT.out
                | some i => exact ⟨rfl, HB2.out⟩
              case neg =>
                have r0' : decide (x.r < 0) = false := by simpa using r0
                have r1 : 0 ≤ x.r := by omega
                have r2 : x.r < (k : Int) := by rcases HGX.out.2.2 with h | h <;> omega
                obtain ⟨hrs2, hlt2⟩ := rising_set HT.out HRS'.out HXM.out HGX.out HS.out r1
                have HGO2 := Lib.hid (gone_set HGO.out hlt2)
                have HRS2 := Lib.hid hrs2
                clear hrs2 hlt2
                obtain ⟨g, cap', hv, _, hgl⟩ := HO2.out.form (by omega)
                injection hv with e1 e2 e3
                subst e1
                have HOV := HO2
                have hwc := RI.of_own HO2.out
                obtain ⟨gb, goff, eg, _, hwc⟩ := hwc.at_ (by omega)
                injection eg with eg
                injection eg with eg1 eg2
                subst eg1 eg2
                have hrc := hwc x.r.toNat (by omega)
                rw [Nat.zero_add] at hrc
                have hfr := World.ownsRow.frozenAt HOV.out x.r.toNat
                by_cases m0 : x.m = 0
                case pos =>
                  have m0' : (x.m == 0) = true := by simpa using m0
                  obtain ⟨v0, v1⟩ : 0 ≤ x.v ∧ x.v < (k : Int) := by rcases HGX.out.1 with h | h <;> omega
                  have hvc := hwc x.v.toNat (by omega)
                  rw [Nat.zero_add] at hvc
                  obtain ⟨l, hl⟩ : ∃ l, l = lft sv' x := ⟨_, rfl⟩
                  rw [← hl] at HGO2 HRS2
                  have hl2 : sv'[x.v.toNat]?.getD 0 = l := by rw [hl]; unfold lft; rw [if_pos m0]
                  rw [hl2] at hvc
                  clear hwc hl hl2 m0 e2 e3
                  obtain ⟨hown3, hg3⟩ := World.ownsRow.stored HOV.out x.r.toNat (.int .u8 l)
                  rw [← List.map_set] at hown3
                  have HO3 := Lib.hid hown3
                  have HB3 := Lib.hid (HB2.out.set_ (p := ⟨g, x.r.toNat, none⟩) (by have := (HOV.out.lt g rfl).1; exact this) (.int .u8 l))
                  clear hown3 hg3
                  go_wp2_with fail
                  go_roundw
                  case rel => exact ⟨true, j + 1, _, by omega, rfl, by go_num, HRS2, HO3, HGO2, HB3⟩
                  case measure => simp [intOf]; omega
                case neg =>
                  have m0' : (x.m == 0) = false := by simpa using m0
                  have hl : lft sv' x = x.m := by unfold lft; rw [if_neg m0]
                  rw [hl] at HGO2 HRS2
                  clear hwc hl m0 e2 e3
                  obtain ⟨hown3, hg3⟩ := World.ownsRow.stored HOV.out x.r.toNat (.int .u8 x.m)
                  rw [← List.map_set] at hown3
                  have HO3 := Lib.hid hown3
                  have HB3 := Lib.hid (HB2.out.set_ (p := ⟨g, x.r.toNat, none⟩) (by have := (HOV.out.lt g rfl).1; exact this) (.int .u8 x.m))
                  clear hown3 hg3
                  go_wp2_with fail
                  go_roundw
                  case rel => exact ⟨true, j + 1, _, by omega, rfl, by go_num, HRS2, HO3, HGO2, HB3⟩
                  case measure => simp [intOf]; omega
          case neg =>
            obtain rfl : j = len := by omega
            cases mo with
            | true =>
              go_wp2_with fail
              go_roundw
              case rel => exact ⟨sv', HRS', HOS', HBI⟩
              case measure =>
                rw [restW_eq HOS'.out, restW_eq HOS.out]
                exact HGO.out.2.1 rfl
            | false =>
              go_wp2_with fail
              go_ret2
              obtain ⟨es, hs⟩ := HGO.out.1 rfl
              subst es
              rw [HLQ.out, List.take_length] at hs
              obtain ⟨t1, t2⟩ := rising_end HT.out HRS.out hs
              unfold RPost
              rw [t1]
              exact ⟨V, c, rfl, by rw [t2]; exact RI.of_own HOS'.out, HBI.out⟩
end Go.Proofs.Ytlbachjhhjjmfaa.Mu
namespace Go.Proofs.Ytlbachjhhjjmfaa.Mu
open Go.ChangeShapes Go.WideShapes Go.ChangeAt Go.RowKit Go.Shelf

attribute [local go_sem] Oper.semAt_some

theorem mayF_two {n : Int} {low : List Int} {xs : List Iq} (hn : n ≤ 1048576) (hl : xs.length ≤ 1048576) (h : mayF n low xs ≠ 0) : mayF n low xs = 2 := by
  unfold mayF at h ⊢
  rw [if_neg (by omega)] at h ⊢
  split
  · rfl
  · rename_i h1
    rw [if_neg h1] at h
    split
    · rfl
    · rename_i h2
      rw [if_neg h2] at h
      split
      · rfl
      · rename_i h3
        rw [if_neg h3] at h
        exact absurd rfl h

end Go.Proofs.Ytlbachjhhjjmfaa.Mu
namespace Go.Proofs.Ytlbachjhhjjmfaa.Mu
open Go.ChangeShapes Go.WideShapes Go.ChangeAt Go.RowKit Go.Shelf

attribute [local go_sem] Oper.semAt_some

theorem flatI_app (a b : List Iq) : flatI (a ++ b) = flatI a ++ flatI b := by simp [flatI]
theorem flatI_length : ∀ xs : List Iq, (flatI xs).length = xs.length * 4
  | [] => rfl
  | x :: xs => by
    have e : flatI (x :: xs) = x.cells ++ flatI xs := by simp [flatI]
    have h : x.cells.length = 4 := rfl
    rw [e, List.length_append, flatI_length xs, h, List.length_cons]
    omega
theorem flatI_one4 (xs : List Iq) : ∀ u ∈ flatI xs, u.oneCell' = true := by
  intro u hu
  simp only [flatI, List.mem_flatMap] at hu
  obtain ⟨x, _, hu⟩ := hu
  simp [Iq.cells] at hu
  rcases hu with rfl | rfl | rfl | rfl <;> rfl
/-- The cells, read flat. -/
theorem RQ.flat {w : World} {B n : Nat} {b off : Nat} {xs : List Iq} (h : RQ w B (some ⟨b, off, none⟩) n xs) : ∀ j u, (flatI xs)[j]? = some u → w.cell? ⟨b, off + j, none⟩ = some u := by
  intro j u hu
  have hj := (List.getElem?_eq_some_iff.1 hu).1
  rw [flatI_length] at hj
  have hk : j / 4 < xs.length := by omega
  obtain ⟨b', off', e, _, hc⟩ := h.at_ (by have := h.len; omega)
  injection e with e
  injection e with e1 e2
  subst e1 e2
  obtain ⟨c0, c1, c2, c3⟩ := hc (j / 4) xs[j / 4] (List.getElem?_eq_getElem hk)
  obtain ⟨d0, d1, d2, d3⟩ := flatI_get xs (j / 4) xs[j / 4] (List.getElem?_eq_getElem hk)
  have h4 : j % 4 = 0 ∨ j % 4 = 1 ∨ j % 4 = 2 ∨ j % 4 = 3 := by omega
  rcases h4 with h4 | h4 | h4 | h4
  · have e : j / 4 * 4 = j := by omega
    rw [e, hu] at d0; injection d0 with d0; subst d0
    rw [e] at c0; exact c0
  · have e : j / 4 * 4 + 1 = j := by omega
    rw [e, hu] at d1; injection d1 with d1; subst d1
    rw [Nat.add_assoc, e] at c1; exact c1
  · have e : j / 4 * 4 + 2 = j := by omega
    rw [e, hu] at d2; injection d2 with d2; subst d2
    rw [Nat.add_assoc, e] at c2; exact c2
  · have e : j / 4 * 4 + 3 = j := by omega
    rw [e, hu] at d3; injection d3 with d3; subst d3
    rw [Nat.add_assoc, e] at c3; exact c3
theorem RQ.of_flat {w : World} {B g n : Nat} {xs : List Iq} (hn : n = xs.length) (hg : g < B) (h : ∀ j u, (flatI xs)[j]? = some u → w.cell? ⟨g, j, none⟩ = some u) : RQ w B (some ⟨g, 0, none⟩) n xs :=
  ⟨hn, fun _ => ⟨g, 0, rfl, hg, fun k x hx => by
    obtain ⟨d0, d1, d2, d3⟩ := flatI_get xs k x hx
    rw [Nat.zero_add]
    exact ⟨h _ _ d0, h _ _ d1, h _ _ d2, h _ _ d3⟩⟩⟩

section
variable {P : Program} {w : World}
theorem run_append_nil4 (base : Nat) (t ty e : TypeId) (i : TypeInfo) (ht : P.underlying t = some (.slice e)) (hi : P.info? e = some i)
    (size : Nat) (v : Value) (n : Nat) (xs : List Value) (hown : w.ownsRow base e size v n xs) (d : Nat) : (Builtin.append_ #[t, t] ty #[v, .slice none 0 d]).run P w = .ok v w := by
  rcases hown.2 with ⟨rfl, _⟩ | ⟨g, cap, cur, rfl, _, _, hnc, _⟩
  · simp [Builtin.append_, run_underlying ht, sizeOf, typeInfo, hi, Builtin.lenOf, Builtin.firstCells]
  · simp [Builtin.append_, run_underlying ht, sizeOf, typeInfo, hi, Builtin.lenOf, Builtin.firstCells, hnc, storeCells]

/-- append of a slice of inequalities, nil and empty ones let in, onto a slice of the call's own. -/
theorem wpList_append_rq {ops : Array Oper} {rest : List Oper} {o : Oper} {a : Act} {Q : Exit → Act → World → Prop} (hgd : o.guard = none) (s x : Operand) (t : TypeId)
    (ho : o.op = .call { callee := .builtin .append, args := #[s, x], argTypes := #[t, t] })
    (base : Nat) (e : TypeId) (z : Value) (hzs : z.cells.size = 4) (ht : P.underlying t = some (.slice e)) (hinfo : (P.info? e).map (fun i => (i.zero, i.size, i.bytes)) = some (some z, 4, 32))
    (A : Option Addr) (n c : Nat) (xs : List Iq) (hs : a.eval s = .slice A n c) (hown : w.ownsRow base e 4 (.slice A n c) n (flatI xs))
    (B0 : Nat) (B : Option Addr) (m d : Nat) (ys : List Iq) (hx : a.eval x = .slice B m d) (hr : RQ w B0 B m ys)
    (hmax : n + m ≤ 1000000000) (hbase : base ≤ w.heap.size)
    (h : ∀ A' c' w', w'.ownsRow base e 4 (.slice A' (n + m) c') (n + m) (flatI (xs ++ ys)) → w.grownBy w' (Value.slice A n c).ownBlock → wpList P ops Q rest (a.put o.dst (.slice A' (n + m) c')) w') : wpList P ops Q (o :: rest) a w := by
  obtain ⟨i, hi, hz0, hz1, hz2⟩ := info_parts hinfo
  have hl := hr.len
  rcases B with _ | ad
  · have hm : m = 0 := by
      rcases Nat.eq_zero_or_pos m with h' | h'
      · exact h'
      · obtain ⟨_, _, h', _⟩ := hr.at_ h'; cases h'
    subst hm
    obtain rfl : ys = [] := List.eq_nil_of_length_eq_zero hl.symm
    refine wpList_plain hgd fun K hK => ?_
    have hrun := run_append_nil4 (P := P) base t o.type e i ht hi _ _ n _ hown d
    have h' := h A c w (by simpa using hown) (World.grownBy.refl _ _)
    unfold Oper.wp
    simp only [execOp, ho, resolve, invoke, builtin, Sem.run_bind, Sem.run_pure, Result.andThen_ok, List.map_toArray, List.map_cons, List.map_nil, hs, hx, hrun]
    exact hK _ _ h'
  · refine wpList_append_own w hgd s x t ho base e i z 4 32 ht hi hz0 hz1 hz2 hzs (by decide) _ n _ hs hown ad m d (flatI ys) hx (by rw [flatI_length, hl]) ?_ (flatI_one4 ys) (by unfold maxLen; omega) (by omega) hbase ?_
    · intro j u hu
      have hj : j < ys.length * 4 := by have := (List.getElem?_eq_some_iff.1 hu).1; rwa [flatI_length] at this
      obtain ⟨b, off, e', _, _⟩ := hr.at_ (by omega)
      injection e' with e'
      subst e'
      rw [Addr.add_lit]
      exact hr.flat j u hu
    · intro v' w' hown' hg _
      obtain ⟨A', c', rfl⟩ := own_form_n hown'
      exact h A' c' w' (by rw [flatI_app]; exact hown') hg
end

set_option maxHeartbeats 1000000 in
theorem cloneQ_any (A : Option Addr) (n cap : Nat) (xs : List Iq) (w : World) (hq : RQ w w.heap.size A n xs) (hn : n ≤ 1000000) :
    Calls Try.prog 23 #[.slice A n cap] w fun e w' => ∃ A' c', e = .returned (.slice A' n c') ∧ w'.ownsRow w.heap.size 34 4 (.slice A' n c') n (flatI xs) ∧ Bel w w' := by
  have q22 : ∀ (w : World) (a : Option Addr) (n c n' c' : Nat), (binOp .eql 37 (.slice a n c) (.slice none n' c')).run Try.prog w = .ok (.bool a.isNone) w := fun w a n c n' c' => Lib.run_eql_slice_nil w _ _ a n c n' c' Try.underlying37
  have HQ := Lib.hid hq
  clear hq
  rcases A with _ | a
  · have hn0 : n = 0 := by
      rcases Nat.eq_zero_or_pos n with h | h
      · exact h
      · obtain ⟨_, _, h', _⟩ := HQ.out.at_ h; cases h'
    subst hn0
    have hx : xs = [] := List.eq_nil_of_length_eq_zero HQ.out.len.symm
    have HX := Lib.hid hx
    clear hx
    go_enter Try.func23, Try.ntmps23
    go_wp2
    go_ret
    exact ⟨none, 0, rfl, by rw [HX.out]; exact World.ownsRow_nil _ _ _ _, Bel.refl _⟩
  · go_enter Try.func23, Try.ntmps23
    go_wp2_with (at_builtin; refine wpList_append_rq rfl _ _ 37 rfl w.heap.size 34 _ rfl Try.underlying37 info_ineq (some ⟨w.heap.size, 0, none⟩) 0 0 [] rfl (World.ownsRow_made w #[] 0 (Nat.le_refl _) (Nat.zero_le _) (by simp)) _ (some a) n cap xs rfl (HQ.out.bel ((Bel.refl w).alloc _)) (by omega) (by simp) ?_; intro A' c' w1 hown1 hg1)
    go_ret
    refine ⟨A', c', rfl, by simpa using hown1, ?_⟩
    exact Below.grown ((Bel.refl w).alloc _) hg1 (by simp) (fun x hx => by simp [Value.ownBlock] at hx; omega)
end Go.Proofs.Ytlbachjhhjjmfaa.Mu
namespace Go.Proofs.Ytlbachjhhjjmfaa.Mu
open Go.ChangeShapes Go.WideShapes Go.ChangeAt Go.RowKit Go.Shelf

attribute [local go_sem] Oper.semAt_some

theorem run_clear4 {P : Program} (w : World) (t e ty : TypeId) (z : Value) (ht : P.underlying t = some (.slice e)) (hv : ∀ w, (zeroValue e).run P w = .ok z w) (hz : z.cells.size = 4) (h1 : ∀ v ∈ z.cells.toList, v.oneCell' = true) (b o n c : Nat)
    (hc : ∀ j, j < n * 4 → (w.cell? ⟨b, o + j, none⟩).isSome = true) (hf : ∀ j, w.frozen? ⟨b, j, none⟩ = false) :
    (Builtin.clear_ #[t] ty #[.slice (some ⟨b, o, none⟩) n c]).run P w = .ok (.tuple #[]) (w.setCells b o (Builtin.zeroCells z.cells n).toList) := by
  have hl : (Builtin.zeroCells z.cells n).toList.length = n * 4 := by simp [Builtin.zeroCells, hz]
  have hst := run_storeCells_cells (P := P) b o (Builtin.zeroCells z.cells n).toList 0 w (by intro j hj; exact hc j (by omega)) (by intro j _; exact hf _) (by
    intro v hv'
    simp only [Builtin.zeroCells, Array.toList_map, List.mem_map] at hv'
    obtain ⟨i, _, rfl⟩ := hv'
    have hlt : i % z.cells.size < z.cells.size := Nat.mod_lt _ (by omega)
    rw [getElem!_pos z.cells _ hlt]
    exact h1 _ (by simp))
  simp only [Nat.add_zero] at hst
  rcases n with _ | m
  · simp [Builtin.clear_, run_underlying ht, Builtin.zeroCells, World.setCells]
  · simp [Builtin.clear_, run_underlying ht, hv, hst]
theorem zero_ineq (w : World) : (zeroValue 34).run Try.prog w = .ok (.agg #[.int .i64 0, .int .u8 0, .int .u8 0, .int .i64 0]) w := by kernel_rfl
theorem frozen_setCells_any (w : World) (g o : Nat) (vs : List Value) (h : ∀ j, w.frozen? ⟨g, j, none⟩ = false) (j : Nat) : (w.setCells g o vs).frozen? ⟨g, j, none⟩ = false := by
  rw [World.frozen?_setCells]; exact h j
theorem flatI_take_get {xs : List Iq} {k j : Nat} (hj : j < k * 4) : (flatI (xs.take k))[j]? = (flatI xs)[j]? := by
  by_cases hk : k ≤ xs.length
  · have e : flatI xs = flatI (xs.take k) ++ flatI (xs.drop k) := by rw [← flatI_app, List.take_append_drop]
    rw [e, List.getElem?_append_left (by rw [flatI_length, List.length_take]; omega)]
  · rw [List.take_of_length_le (by omega)]
/-- What stands in the block behind the elements from i + 1 on came to i, whatever is cleared behind them. -/
theorem deleted_flat {w : World} {g i : Nat} {xs : List Iq} {zs : List Value} {off : Nat} (hi : i < xs.length) (hoff : (xs.length - 1) * 4 ≤ off) (h : ∀ j u, (flatI xs)[j]? = some u → w.cell? ⟨g, j, none⟩ = some u) :
    ∀ j u, (flatI (xs.eraseIdx i))[j]? = some u → ((w.setCells g (i * 4) (flatI (xs.drop (i + 1)))).setCells g off zs).cell? ⟨g, j, none⟩ = some u := by
  intro j u hu
  have hj := (List.getElem?_eq_some_iff.1 hu).1
  rw [flatI_length, List.length_eraseIdx_of_lt hi] at hj
  rw [World.cell?_setCells_out _ _ _ _ _ (fun _ _ => .inl (by simp; omega))]
  rw [List.eraseIdx_eq_take_drop_succ, flatI_app] at hu
  have hl : (flatI (xs.take i)).length = i * 4 := by rw [flatI_length, List.length_take]; omega
  by_cases hji : j < i * 4
  · rw [List.getElem?_append_left (by omega), flatI_take_get hji] at hu
    rw [World.cell?_setCells_out _ _ _ _ _ (fun _ _ => .inl (by simp; omega))]
    exact h j u hu
  · rw [List.getElem?_append_right (by omega), hl] at hu
    have hj2 := (List.getElem?_eq_some_iff.1 hu).1
    have hin := World.cell?_setCells_in g (flatI (xs.drop (i + 1))) (i * 4) w (fun k hk => by
      rw [flatI_length, List.length_drop] at hk
      have hk' : i * 4 + k < (flatI xs).length := by rw [flatI_length]; omega
      rw [h (i * 4 + k) _ (List.getElem?_eq_getElem hk')]
      rfl) (j - i * 4) hj2
    rw [show i * 4 + (j - i * 4) = j by omega] at hin
    rw [hin]
    rw [← hu, List.getElem?_eq_getElem hj2]

end Go.Proofs.Ytlbachjhhjjmfaa.Mu

