/-
  The statements' own first question of layer 4.
  Holds, as the least solution's mathematics has it.
  What is more than is gone through; what LeastBelow's first loop asks.
-/
import Derived.Test.YtjgpkolfcpoinaaLeastSolve
namespace Go.Proofs.Ytjgpkolfcpoinaa.Mu
open Go.ChangeShapes Go.WideShapes Go.ChangeAt Go.RowKit Go.Shelf

attribute [local go_sem] Oper.semAt_some

set_option maxHeartbeats 1000000 in
/-- slices.Equal at []api.Mult. -/
theorem mequal_any (A B : Option Addr) (n n2 c d : Nat) (xs ys : List Int) (w : World) (ha : RI .u8 w w.heap.size A n xs) (hb : RI .u8 w w.heap.size B n2 ys) (hn : n ≤ 1000000000) (hn2 : n2 ≤ 1000000000) :
    Calls Try.prog 17 #[.slice A n c, .slice B n2 d] w fun e w' => e = .returned (.bool (decide (xs = ys))) ∧ Bel w w' := by
  have HA := Lib.hid ha
  have HB := Lib.hid hb
  have HL := Lib.hid ha.len
  have HL2 := Lib.hid hb.len
  clear ha hb
  by_cases hnn : n = n2
  · subst hnn
    obtain ⟨r, hr⟩ : ∃ r, r = decide (xs = ys) := ⟨_, rfl⟩
    rw [← hr]
    have HR := Lib.hid hr
    clear hr
    go_enter Try.func17, Try.ntmps17
    go_wp2
    go_loopw [13] (fun i wr => ∃ k : Nat, k ≤ n ∧ i = .int .i64 (k : Int) ∧ Hid (xs.take k = ys.take k) ∧ Hid (Bel w wr)) (fun i _ => n - (intOf i).toNat)
    case atStart => exact ⟨0, Nat.zero_le _, rfl, Lib.hid (by simp), Lib.hid (Bel.refl _)⟩
    case round =>
      obtain ⟨k, hk, rfl, HT, HBW⟩ := hrel
      by_cases hlt : k < n
      · obtain ⟨b, off, eA, hb, hc⟩ := (HA.out.bel HBW.out).at_ (by omega)
        obtain ⟨b', off', eB, hb', hc'⟩ := (HB.out.bel HBW.out).at_ (by omega)
        subst eA
        subst eB
        obtain ⟨x, hxk⟩ : ∃ x, xs[k]? = some x := ⟨_, List.getElem?_eq_getElem (by rw [← HL.out]; exact hlt)⟩
        obtain ⟨y, hyk⟩ : ∃ y, ys[k]? = some y := ⟨_, List.getElem?_eq_getElem (by rw [← HL2.out]; exact hlt)⟩
        have c0 := hc k hlt
        have d0 := hc' k hlt
        rw [hxk, Option.getD_some] at c0
        rw [hyk, Option.getD_some] at d0
        have i1 : (0 : Int) ≤ (k : Int) := by omega
        have i2 : (k : Int) < (n : Int) := by omega
        have HX := Lib.hid hxk
        have HY := Lib.hid hyk
        clear hc hc' hxk hyk
        by_cases hxy : x = y
        · subst hxy
          go_wp2_with fail
          go_quiet (fail)
          go_wp2
          go_roundw
          case rel => exact ⟨k + 1, by omega, by go_num, Lib.hid (by rw [take_snoc_ HX.out, take_snoc_ HY.out, HT.out]), Lib.hid (HBW.out.drewN _)⟩
          case measure => simp [intOf]; omega
        · go_wp2_with fail
          go_quiet (fail)
          go_wp2
          go_ret
          have hf : r = false := by
            rw [HR.out]
            refine decide_eq_false fun e => hxy ?_
            have h1 := HX.out
            rw [e, HY.out] at h1
            exact (Option.some.inj h1).symm
          exact ⟨by rw [hf]; rfl, HBW.out.drewN _⟩
      · obtain rfl : k = n := by omega
        go_wp2
        go_ret
        have ht : r = true := by
          rw [HR.out]
          have h := HT.out
          rw [HL.out, List.take_length, ← HL.out, HL2.out, List.take_length] at h
          exact decide_eq_true h
        exact ⟨by rw [ht]; rfl, HBW.out⟩
  · have e : decide (xs = ys) = false := decide_eq_false fun e => hnn (by rw [HL.out, HL2.out, e])
    rw [e]
    have h1 : ((n : Int) == (n2 : Int)) = false := by simp; omega
    have h2 : ¬ (n : Int) = (n2 : Int) := by omega
    go_enter Try.func17, Try.ntmps17
    go_wp2
    go_ret
    exact ⟨rfl, Bel.refl _⟩

theorem lk_any (m : Int) (w : World) : Calls Try.prog 14 #[.int .u8 m] w fun e w' => e = .returned (.agg #[.int .i64 0, .int .u8 m]) ∧ Bel w w' := by
  go_enter Try.func14, Try.ntmps14
  go_wp2
  exact bodyPost_ret (v := .agg #[.int .i64 0, .int .u8 m]) (by simp [results, Try.results14, go_sem]) rfl ⟨rfl, (Bel.refl _).alloc _⟩
theorem lv_any (v : Int) (w : World) : Calls Try.prog 15 #[.int .i64 v] w fun e w' => e = .returned (.agg #[.int .i64 v, .int .u8 0]) ∧ Bel w w' := by
  go_enter Try.func15, Try.ntmps15
  go_wp2
  exact bodyPost_ret (v := .agg #[.int .i64 v, .int .u8 0]) (by simp [results, Try.results15, go_sem]) rfl ⟨rfl, (Bel.refl _).alloc _⟩
theorem lup_any (v m c r : Int) (w : World) : Calls Try.prog 13 #[.agg #[.int .i64 v, .int .u8 m], .int .u8 c, .int .i64 r] w fun e w' => e = .returned (.agg #[.int .i64 v, .int .u8 m, .int .u8 c, .int .i64 r]) ∧ Bel w w' := by
  go_enter Try.func13, Try.ntmps13
  go_wp2
  exact bodyPost_ret (v := .agg #[.int .i64 v, .int .u8 m, .int .u8 c, .int .i64 r]) (by simp [results, Try.results13, go_sem]) rfl ⟨rfl, ((Bel.refl _).alloc _).alloc _⟩

def three : List Iq := [⟨0, 2, 1, 0⟩, ⟨0, 0, 1, 1⟩, ⟨0, 0, 2, 2⟩]
theorem three_told {T : Option Nat × List Int × List Int} (h : Tells 3 [] three T) : T.1 = none ∧ T.2.1 = [2, 2, 1] := by
  obtain ⟨h1, h2⟩ := h.least [2, 2, 1] (by intro x hx; simp [three] at hx; rcases hx with rfl | rfl | rfl <;> simp [SatQ, lft]) (by
    intro v hv
    match v, hv with
    | 0, _ => simp [low0]
    | 1, _ => simp [low0]
    | 2, _ => simp [low0])
  obtain ⟨h3, h4, h5⟩ := h.solves h1
  refine ⟨h1, ?_⟩
  obtain ⟨t1, t2, t3⟩ := T
  dsimp only at *
  match t2, h3 with
  | [a, b, c], _ =>
    have s0 := h4 ⟨0, 2, 1, 0⟩ (by simp [three])
    have s1 := h4 ⟨0, 0, 1, 1⟩ (by simp [three])
    have u0 := h2 0 (by omega)
    have u1 := h2 1 (by omega)
    have u2 := h2 2 (by omega)
    have v2 := h5 2 (by omega)
    simp [SatQ, lft] at s0 s1 u0 u1 u2 v2
    have e0 : a = 2 := by omega
    have e1 : b = 2 := by omega
    have e2 : c = 1 := by omega
    rw [e0, e1, e2]
theorem rq_three (w : World) : RQ (w.alloc (.cells #[.int .i64 0, .int .u8 2, .int .u8 1, .int .i64 0, .int .i64 0, .int .u8 0, .int .u8 1, .int .i64 1, .int .i64 0, .int .u8 0, .int .u8 2, .int .i64 2] 31)) (w.heap.size + 1) (some ⟨w.heap.size, 0, none⟩) 3 three :=
  ⟨rfl, fun _ => ⟨_, 0, rfl, by omega, fun k x hx => by
    match k, hx with
    | 0, hx => simp [three] at hx; subst hx; simp
    | 1, hx => simp [three] at hx; subst hx; simp
    | 2, hx => simp [three] at hx; subst hx; simp⟩⟩
theorem ri_three (w : World) (x y z : Int) : RI .u8 (w.alloc (.cells #[.int .u8 x, .int .u8 y, .int .u8 z] 27)) (w.heap.size + 1) (some ⟨w.heap.size, 0, none⟩) 3 [x, y, z] :=
  ⟨rfl, fun _ => ⟨_, 0, rfl, by omega, fun k hk => by
    match k, hk with
    | 0, _ => simp
    | 1, _ => simp
    | 2, _ => simp⟩⟩

set_option maxRecDepth 100000 in
set_option maxHeartbeats 2000000 in
theorem works4_any (w : World) : Calls Try.prog 16 #[] w fun e w' => e = .returned (.bool true) ∧ Bel w w' := by
  have HSV : Hid (∀ (W : World) (A : Option Addr) (cap : Nat), RQ W W.heap.size A 3 three → Calls Try.prog 12 #[.int .i64 3, .slice none 0 0, .slice A 3 cap] W (SolvedPost 3 [2, 2, 1] W)) := Lib.hid fun W A cap hq => by
    obtain ⟨T, ws, ht, hc⟩ := solve_good 3 none A 0 0 3 cap [] three rfl rfl (by decide +kernel)
    have h := hc W RI.nil_ hq
    obtain ⟨e1, e2⟩ := three_told ht
    refine h.mono fun e w' hp => ?_
    unfold SolvePost at hp
    rw [e1] at hp
    rw [e2] at hp
    exact hp
  have HEQ : Hid (∀ (W : World) (A B : Option Addr) (c d : Nat), RI .u8 W W.heap.size A 3 [2, 2, 1] → RI .u8 W W.heap.size B 3 [2, 2, 1] → Calls Try.prog 17 #[.slice A 3 c, .slice B 3 d] W fun e w' => e = .returned (.bool true) ∧ Bel W w') := Lib.hid fun W A B c d h1 h2 => by
    have h := mequal_any A B 3 3 c d _ _ W h1 h2 (by omega) (by omega)
    rw [decide_eq_true rfl] at h
    exact h
  go_enter Try.func16, Try.ntmps16
  go_wp2_with fail
  refine (lk_any _ _).mono ?_
  rintro e w1 ⟨rfl, hb1⟩
  have HB1 := Lib.hid hb1
  clear hb1
  go_wp2_with fail
  refine (lup_any _ _ _ _ _).mono ?_
  rintro e w2 ⟨rfl, hb2⟩
  have HB2 := Lib.hid (HB1.out.on hb2)
  clear hb2
  go_wp2_with fail
  refine (lv_any _ _).mono ?_
  rintro e w3 ⟨rfl, hb3⟩
  have HB3 := Lib.hid (HB2.out.on hb3)
  clear hb3
  go_wp2_with fail
  refine (lup_any _ _ _ _ _).mono ?_
  rintro e w4 ⟨rfl, hb4⟩
  have HB4 := Lib.hid (HB3.out.on hb4)
  clear hb4
  go_wp2_with fail
  refine (lv_any _ _).mono ?_
  rintro e w5 ⟨rfl, hb5⟩
  have HB5 := Lib.hid (HB4.out.on hb5)
  clear hb5
  go_wp2_with fail
  refine (lup_any _ _ _ _ _).mono ?_
  rintro e w6 ⟨rfl, hb6⟩
  have HB6 := Lib.hid (HB5.out.on hb6)
  clear hb6
  go_wp2_with fail
  refine (HSV.out _ _ _ (by simpa using rq_three w6)).mono ?_
  rintro e w7 ⟨ga, rfl, ha, _, hb7⟩
  have HA := Lib.hid ha
  have HB7 := Lib.hid (HB6.out.on (((Bel.refl w6).alloc _).on hb7))
  clear ha hb7
  go_wp2_with fail
  refine (HEQ.out _ _ _ _ _ ((HA.out.bel ((Bel.refl _).alloc _)).ri rfl) (by simpa using ri_three w7 2 2 1)).mono ?_
  rintro e w8 ⟨rfl, hb8⟩
  have HB8 := Lib.hid (HB7.out.on (((Bel.refl w7).alloc _).on hb8))
  clear hb8
  go_wp2
  go_ret
  exact ⟨rfl, HB8.out⟩
end Go.Proofs.Ytjgpkolfcpoinaa.Mu
namespace Go.Proofs.Ytjgpkolfcpoinaa.Mu
open Go

theorem none_idxF {p : Iq → Bool} : ∀ {xs : List Iq}, idxF p xs < 0 → ∀ x ∈ xs, p x = false
  | [], _, _, hx => by cases hx
  | y :: ys, h, x, hx => by
    have hge := idxF_ge p ys
    unfold idxF at h
    split at h
    · omega
    · rename_i hy
      split at h
      · rename_i h1
        rcases List.mem_cons.1 hx with rfl | hx
        · simpa using hy
        · exact none_idxF (by omega) x hx
      · omega
theorem may_cr {x : Iq} (h : x.may = true) : ((x.m = 0 ∧ 0 ≤ x.v) ∨ (1 ≤ x.m ∧ x.m ≤ 3)) ∧ 1 ≤ x.c ∧ x.c ≤ 3 ∧ -1 ≤ x.r := by
  unfold Iq.may mayI at h
  simp only [Bool.and_eq_true, decide_eq_true_eq] at h
  obtain ⟨⟨⟨hb, hc⟩, hr0⟩, _⟩ := h
  have hc' : 1 ≤ x.c ∧ x.c ≤ 3 := by simpa [isMultB] using hc
  refine ⟨?_, hc'.1, hc'.2, hr0⟩
  rcases isB_parts hb with ⟨e, v0, _⟩ | ⟨m1, m3, _⟩
  · exact .inl ⟨e, v0⟩
  · exact .inr ⟨m1, m3⟩
theorem bad_sat {S : List Int} {x : Iq} (h : x.may = true) : x.bad S = false ↔ SatQ S x := by
  obtain ⟨hm, c1, c3, r1⟩ := may_cr h
  unfold Iq.bad SatQ lft atS lcF lhB lvF rhB
  by_cases h0 : x.m = 0 <;> by_cases hr : x.r = -1 <;> simp [h0, hr] <;> omega
theorem stands_good {S : List Int} {x : Iq} (h : x.may = true) (hs : x.stands S = true) : GoodQ S.length x := by
  obtain ⟨hm, c1, c3, r1⟩ := may_cr h
  unfold Iq.stands standsB okV lhB lvF rhB at hs
  unfold GoodQ
  by_cases h0 : x.m = 0 <;> by_cases hr : x.r = -1 <;> simp [h0, hr] at hs ⊢ <;> omega
theorem good_stands {S : List Int} {x : Iq} (hg : GoodQ S.length x) (hS : ∀ v, v < S.length → 1 ≤ S[v]?.getD 0 ∧ S[v]?.getD 0 ≤ 3) : x.stands S = true := by
  have one : ∀ v : Int, 0 ≤ v → v < S.length → okV S v = true := fun v h0 h1 => by
    have := hS v.toNat (by omega)
    simp [okV, isMultB]
    omega
  obtain ⟨hm, _, hr⟩ := hg
  unfold Iq.stands standsB lhB lvF rhB
  by_cases h0 : x.m = 0
  · have h1 := one x.v (by rcases hm with h | h <;> omega) (by rcases hm with h | h <;> omega)
    by_cases h2 : x.r = -1
    · simp [h0, h1, h2]
    · simp [h0, h1, h2, one x.r (by omega) (by omega)]
  · by_cases h2 : x.r = -1
    · simp [h0, h2]
    · simp [h0, h2, one x.r (by omega) (by omega)]
theorem holds_parts {S : List Int} {xs : List Iq} (he : holdsE S xs = 0) (hn : holdsN S xs < 0) : ∀ x ∈ xs, x.may = true ∧ GoodQ S.length x ∧ SatQ S x := by
  unfold holdsE at he
  unfold holdsN at hn
  split at he
  · rename_i h1
    rw [if_pos h1] at hn
    split at he
    · rename_i h2
      rw [if_pos h2] at hn
      intro x hx
      have hm := List.all_eq_true.1 h1 x hx
      exact ⟨hm, stands_good hm (List.all_eq_true.1 h2 x hx), (bad_sat hm).1 (none_idxF hn x hx)⟩
    · cases he
  · cases he
theorem holds_of {S : List Int} {xs : List Iq} (hS : ∀ v, v < S.length → 1 ≤ S[v]?.getD 0 ∧ S[v]?.getD 0 ≤ 3) (h : ∀ x ∈ xs, x.may = true ∧ GoodQ S.length x ∧ SatQ S x) : holdsE S xs = 0 ∧ holdsN S xs = -1 := by
  have h1 : xs.all Iq.may = true := List.all_eq_true.2 fun x hx => (h x hx).1
  have h2 : xs.all (Iq.stands S) = true := List.all_eq_true.2 fun x hx => good_stands (h x hx).2.1 hS
  unfold holdsE holdsN
  rw [if_pos h1, if_pos h2, if_pos h1, if_pos h2]
  exact ⟨rfl, idxF_none (List.all_eq_true.2 fun x hx => by rw [(bad_sat (h x hx).1).2 (h x hx).2.2]; rfl)⟩
theorem mayF_ok {n : Nat} {low : List Int} {xs : List Iq} (hn : n ≤ 1048576) (hl : xs.length ≤ 1048576) (hlow : low.length = 0 ∨ low.length = n) (hm : ∀ m ∈ low, 1 ≤ m ∧ m ≤ 3) (hx : ∀ x ∈ xs, x.may = true ∧ GoodQ n x) : mayF n low xs = 0 := by
  unfold mayF
  rw [if_neg (by omega), if_neg (by omega), if_neg, if_neg]
  · intro h
    obtain ⟨x, hx1, hx2⟩ := List.any_eq_true.1 h
    obtain ⟨h1, h2, h3, h4⟩ := hx x hx1
    simp [badQ, h1] at hx2
    omega
  · intro h
    obtain ⟨m, hm1, hm2⟩ := List.any_eq_true.1 h
    have := hm m hm1
    simp [badM] at hm2
    omega
end Go.Proofs.Ytjgpkolfcpoinaa.Mu
namespace Go.Proofs.Ytjgpkolfcpoinaa.Mu
open Go.ChangeShapes Go.WideShapes Go.ChangeAt Go.RowKit Go.Shelf

attribute [local go_sem] Oper.semAt_some

theorem lgreat_any (n : Int) (G A : Option Addr) (ln lk len cap : Nat) (w : World) : Calls Try.prog 19 #[.int .i64 n, .slice G ln lk, .slice A len cap] w fun e w' => e = .returned (.bool (decide (200 < n) || decide (300 < ln) || decide (400 < len))) ∧ Bel w w' := by
  by_cases h1 : 200 < n
  · have e : (decide (200 < n) || decide (300 < ln) || decide (400 < len)) = true := by simp [h1]
    rw [e]
    go_enter Try.func19, Try.ntmps19
    go_wp2
    go_ret
    exact ⟨rfl, Bel.refl _⟩
  by_cases h2 : 300 < ln
  · have e : (decide (200 < n) || decide (300 < ln) || decide (400 < len)) = true := by simp [h2]
    rw [e]
    have h2' : (300 : Int) < (ln : Int) := by omega
    go_enter Try.func19, Try.ntmps19
    go_wp2
    go_ret
    exact ⟨rfl, Bel.refl _⟩
  have h2' : decide ((300 : Int) < (ln : Int)) = false := by simp; omega
  by_cases h3 : 400 < len
  · have e : (decide (200 < n) || decide (300 < ln) || decide (400 < len)) = true := by simp [h3]
    rw [e]
    have h3' : (400 : Int) < (len : Int) := by omega
    go_enter Try.func19, Try.ntmps19
    go_wp2
    go_ret
    exact ⟨rfl, Bel.refl _⟩
  have h3' : decide ((400 : Int) < (len : Int)) = false := by simp; omega
  have e : (decide (200 < n) || decide (300 < ln) || decide (400 < len)) = false := by simp [h1, h2, h3]
  rw [e]
  go_enter Try.func19, Try.ntmps19
  go_wp2
  go_ret
  exact ⟨rfl, Bel.refl _⟩

/-- What the first loop asks of one variable. -/
def passB (low av : List Int) (j : Nat) : Bool := decide (1 ≤ av[j]?.getD 0) && decide (av[j]?.getD 0 ≤ 3) && (decide (low.length = 0) || (decide (1 ≤ low[j]?.getD 0) && decide (low[j]?.getD 0 ≤ av[j]?.getD 0)))

end Go.Proofs.Ytjgpkolfcpoinaa.Mu

