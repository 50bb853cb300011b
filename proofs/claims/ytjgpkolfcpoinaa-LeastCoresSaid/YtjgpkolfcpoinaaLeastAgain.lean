/-
  The statement LeastAgain: walked.
-/
import Derived.Test.YtjgpkolfcpoinaaQlist
namespace Go.Proofs.Ytjgpkolfcpoinaa.Mu
open Go.ChangeShapes Go.WideShapes Go.ChangeAt Go.RowKit Go.Shelf

attribute [local go_sem] Oper.semAt_some

theorem eq_of_at {n : Nat} {a b : List Int} (ha : a.length = n) (hb : b.length = n) (h : ∀ v, v < n → a[v]?.getD 0 = b[v]?.getD 0) : a = b := by
  apply List.ext_getElem?
  intro v
  by_cases hv : v < n
  · have := h v hv
    rw [List.getElem?_eq_getElem (show v < a.length by omega), List.getElem?_eq_getElem (show v < b.length by omega)] at this ⊢
    simpa using this
  · rw [List.getElem?_eq_none (by omega), List.getElem?_eq_none (by omega)]
theorem low0_self {n : Nat} {sv : List Int} (h : sv.length = n) : low0 n sv = sv := by
  unfold low0
  split
  · rename_i h0
    obtain rfl : sv = [] := List.eq_nil_of_length_eq_zero h0
    rw [← h]; rfl
  · rfl
theorem tells_of {n : Nat} {low : List Int} {xs : List Iq} (hm : mayF n low xs = 0) : ∃ T, Tells n low xs T := by
  obtain ⟨T, _, h, _⟩ := solve_good n none none low.length 0 xs.length 0 low xs rfl rfl hm
  exact ⟨T, h⟩
theorem tells_one {n : Nat} {low : List Int} {xs : List Iq} {T T' : Option Nat × List Int × List Int} (h : Tells n low xs T) (h' : Tells n low xs T') (h1 : T.1 = none) : T'.1 = none ∧ T'.2.1 = T.2.1 := by
  obtain ⟨a1, a2, a3⟩ := h.solves h1
  obtain ⟨b1, b2⟩ := h'.least T.2.1 a2 (fun v hv => (a3 v hv).2.2)
  obtain ⟨c1, c2, c3⟩ := h'.solves b1
  obtain ⟨_, d2⟩ := h.least T'.2.1 c2 (fun v hv => (c3 v hv).2.2)
  exact ⟨b1, eq_of_at c1 a1 (fun v hv => by have := b2 v hv; have := d2 v hv; omega)⟩
theorem solve_same {n : Nat} {low : List Int} {xs : List Iq} {T : Option Nat × List Int × List Int} (hT : Tells n low xs T) (h1 : T.1 = none) (hm : mayF n low xs = 0) (G A : Option Addr) (ln lk len cap : Nat) (hlen : len = xs.length) (hln : ln = low.length) (w : World) (hg : RI .u8 w w.heap.size G ln low) (hq : RQ w w.heap.size A len xs) :
    Calls Try.prog 12 #[.int .i64 n, .slice G ln lk, .slice A len cap] w (SolvedPost n T.2.1 w) := by
  obtain ⟨T', ws, hT', hc⟩ := solve_good n G A ln lk len cap low xs hlen hln hm
  obtain ⟨e1, e2⟩ := tells_one hT hT' h1
  refine (hc w hg hq).mono fun e w' h => ?_
  unfold SolvePost at h
  rw [e1] at h
  rw [e2] at h
  exact h
def ClashOut (w : World) (e : Ending) (w' : World) : Prop := ∃ A k c, e = .returned (.tuple #[.slice none 0 0, .slice A k c, .int .i64 40]) ∧ Bel w w'
theorem solve_clash {n : Nat} {low : List Int} {xs : List Iq} {T : Option Nat × List Int × List Int} (hT : Tells n low xs T) (h1 : T.1 ≠ none) (hm : mayF n low xs = 0) (G A : Option Addr) (ln lk len cap : Nat) (hlen : len = xs.length) (hln : ln = low.length) (w : World) (hg : RI .u8 w w.heap.size G ln low) (hq : RQ w w.heap.size A len xs) :
    Calls Try.prog 12 #[.int .i64 n, .slice G ln lk, .slice A len cap] w (ClashOut w) := by
  obtain ⟨T', ws, hT', hc⟩ := solve_good n G A ln lk len cap low xs hlen hln hm
  refine (hc w hg hq).mono fun e w' h => ?_
  unfold SolvePost at h
  cases ht : T'.1 with
  | none => exact absurd (tells_one hT' hT ht).1 h1
  | some i =>
    rw [ht] at h
    obtain ⟨B, A', c, _, rfl, _, hb⟩ := h
    exact ⟨A', _, c, rfl, hb⟩

/-- What is told with more inequalities, from low and from what was told. -/
theorem again_more {n : Nat} {low : List Int} {xs ys : List Iq} {T T3 T4 : Option Nat × List Int × List Int} (hT : Tells n low xs T) (h1 : T.1 = none) (h3 : Tells n low (xs ++ ys) T3) (h4 : Tells n T.2.1 (ys ++ xs) T4) :
    (T3.1 = none ↔ T4.1 = none) ∧ (T3.1 = none → T3.2.1 = T4.2.1 ∧ ∀ v, v < n → T.2.1[v]?.getD 0 ≤ T3.2.1[v]?.getD 0) := by
  obtain ⟨a1, a2, a3⟩ := hT.solves h1
  have hl := low0_self a1
  have to4 : T3.1 = none → T4.1 = none ∧ (∀ v, v < n → T4.2.1[v]?.getD 0 ≤ T3.2.1[v]?.getD 0) ∧ ∀ v, v < n → T.2.1[v]?.getD 0 ≤ T3.2.1[v]?.getD 0 := fun e3 => by
    obtain ⟨b1, b2, b3⟩ := h3.solves e3
    obtain ⟨_, c2⟩ := hT.least T3.2.1 (fun x hx => b2 x (List.mem_append_left _ hx)) (fun v hv => (b3 v hv).2.2)
    obtain ⟨d1, d2⟩ := h4.least T3.2.1 (fun x hx => b2 x (by rcases List.mem_append.1 hx with h | h; exact List.mem_append_right _ h; exact List.mem_append_left _ h)) (fun v hv => by rw [hl]; exact c2 v hv)
    exact ⟨d1, d2, c2⟩
  have to3 : T4.1 = none → T3.1 = none ∧ ∀ v, v < n → T3.2.1[v]?.getD 0 ≤ T4.2.1[v]?.getD 0 := fun e4 => by
    obtain ⟨b1, b2, b3⟩ := h4.solves e4
    exact h3.least T4.2.1 (fun x hx => b2 x (by rcases List.mem_append.1 hx with h | h; exact List.mem_append_right _ h; exact List.mem_append_left _ h)) (fun v hv => by have h5 := (b3 v hv).2.2; rw [hl] at h5; have := (a3 v hv).2.2; omega)
  refine ⟨⟨fun h => (to4 h).1, fun h => (to3 h).1⟩, fun h => ?_⟩
  obtain ⟨e4, l4, lt⟩ := to4 h
  obtain ⟨_, l3⟩ := to3 e4
  exact ⟨eq_of_at (h3.solves h).1 (h4.solves e4).1 (fun v hv => by have := l4 v hv; have := l3 v hv; omega), lt⟩
theorem told_may {n : Nat} {low : List Int} {xs : List Iq} {T : Option Nat × List Int × List Int} (hm : mayF n low xs = 0) (hT : Tells n low xs T) (h1 : T.1 = none) : mayF n T.2.1 xs = 0 := by
  obtain ⟨N, hN, n1, l1, _, _, _⟩ := may_good hm
  obtain rfl : n = N := by omega
  have h2 := (mayF_zero (by omega) l1).1 hm
  obtain ⟨a1, _, a3⟩ := hT.solves h1
  refine (mayF_zero (by omega) l1).2 ⟨by omega, .inr (by rw [a1]), ?_, h2.2.2.2⟩
  rw [List.any_eq_false]
  intro m hm2 hb
  obtain ⟨j, hj, rfl⟩ := List.getElem_of_mem hm2
  have := a3 j (by omega)
  rw [List.getElem?_eq_getElem hj, Option.getD_some] at this
  simp [badM] at hb
  omega
/-- With more of them: as before, unless one of these may not be. -/
theorem more_may {n : Nat} {low : List Int} {xs ys : List Iq} (hm : mayF n low xs = 0) (hl : xs.length + ys.length ≤ 1048576) : (mayF n low (xs ++ ys) = if ys.any (badQ n) = true then 2 else 0) ∧ (mayF n low (ys ++ xs) = if ys.any (badQ n) = true then 2 else 0) := by
  obtain ⟨N, hN, n1, _, _, _, _⟩ := may_good hm
  obtain rfl : n = N := by omega
  obtain ⟨h0, h1, h2, h3⟩ := (mayF_zero (by omega) (by omega)).1 hm
  have key : ∀ zs : List Iq, zs.length ≤ 1048576 → zs.any (badQ n) = ys.any (badQ n) → mayF n low zs = if ys.any (badQ n) = true then 2 else 0 := fun zs hz e => by
    have hmz := mayF_zero (n := (n : Int)) (low := low) (xs := zs) (by omega) hz
    cases hb : ys.any (badQ n)
    · rw [if_neg (by simp)]
      exact hmz.2 ⟨h0, h1, h2, by rw [e, hb]⟩
    · rw [if_pos rfl]
      refine mayF_two (by omega) hz (fun hc => ?_)
      have := (hmz.1 hc).2.2.2
      rw [e, hb] at this
      cases this
  exact ⟨key _ (by simp; omega) (by rw [List.any_append, h3]; simp), key _ (by simp; omega) (by rw [List.any_append, h3]; simp)⟩

set_option maxRecDepth 100000 in
set_option maxHeartbeats 8000000 in
theorem leastAgain_any (n : Int) (G A M : Option Addr) (ln lk len cap mn mk : Nat) (low : List Int) (xs ys : List Iq) (w : World) (hl : RI .u8 w w.heap.size G ln low) (hlm : ln ≤ 9223372036854775807) (hq : RQ w w.heap.size A len xs) (hqm : len ≤ 9223372036854775807) (hy : RQ w w.heap.size M mn ys) (hym : mn ≤ 9223372036854775807) :
    Calls Try.prog 7 #[.int .i64 n, .slice G ln lk, .slice A len cap, .slice M mn mk] w fun e w' => e = .returned (.bool true) ∧ Bel w w' := by
  have HG := Lib.hid hl
  have HQ := Lib.hid hq
  have HY := Lib.hid hy
  have HLQ := Lib.hid hq.len
  have HLY := Lib.hid hy.len
  have HLL := Lib.hid hl.len
  have HB0 := Lib.hid (Bel.refl w)
  clear hl hq hy
  obtain ⟨g, hg⟩ : ∃ g, g = (decide (200 < n) || decide (300 < ln) || decide (400 < len)) := ⟨_, rfl⟩
  obtain ⟨g2, hg2⟩ : ∃ g, g = (decide (200 < n) || decide (300 < ln) || decide (400 < mn)) := ⟨_, rfl⟩
  have hgr := fun W => lgreat_any n G A ln lk len cap W
  have hgr2 := fun W => lgreat_any n G M ln lk mn mk W
  rw [← hg] at hgr
  rw [← hg2] at hgr2
  have HGR := Lib.hid hgr
  have HGR2 := Lib.hid hgr2
  clear hgr hgr2
  cases g with
  | true =>
    clear hg hg2
    go_enter Try.func7, Try.ntmps7
    go_wp2_with fail
    refine (HGR.out _).mono ?_
    rintro e w1 ⟨rfl, hb1⟩
    have HB1 := Lib.hid (HB0.out.on hb1)
    clear hb1
    go_wp2_with fail
    refine (works4_any _).mono ?_
    rintro e w2 ⟨rfl, hb2⟩
    have HB2 := Lib.hid (HB1.out.on hb2)
    clear hb2
    go_wp2
    go_ret
    exact ⟨rfl, HB2.out⟩
  | false =>
    cases g2 with
    | true =>
      clear hg hg2
      go_enter Try.func7, Try.ntmps7
      go_wp2_with fail
      refine (HGR.out _).mono ?_
      rintro e w1 ⟨rfl, hb1⟩
      have HB1 := Lib.hid (HB0.out.on hb1)
      clear hb1
      go_wp2_with fail
      refine (HGR2.out _).mono ?_
      rintro e w2 ⟨rfl, hb2⟩
      have HB2 := Lib.hid (HB1.out.on hb2)
      clear hb2
      go_wp2_with fail
      refine (works4_any _).mono ?_
      rintro e w3 ⟨rfl, hb3⟩
      have HB3 := Lib.hid (HB2.out.on hb3)
      clear hb3
      go_wp2
      go_ret
      exact ⟨rfl, HB3.out⟩
    | false =>
      obtain ⟨s1, s2, s3, s4⟩ : n ≤ 200 ∧ ln ≤ 300 ∧ len ≤ 400 ∧ mn ≤ 400 := by simp at hg hg2; omega
      clear hg hg2 hqm hym
      by_cases hm : mayF n low xs = 0
      case neg =>
        have hno := fun W (hW : Bel w W) => solve_no n G A ln lk len cap low xs W (HG.out.bel hW) (HQ.out.bel hW) hlm hm
        rw [mayF_two (by omega) (by rw [← HLQ.out]; omega) hm] at hno
        have HNO := Lib.hid hno
        clear hno hm hlm
        go_enter Try.func7, Try.ntmps7
        go_wp2_with fail
        refine (HGR.out _).mono ?_
        rintro e w1 ⟨rfl, hb1⟩
        have HB1 := Lib.hid (HB0.out.on hb1)
        clear hb1
        go_wp2_with fail
        refine (HGR2.out _).mono ?_
        rintro e w2 ⟨rfl, hb2⟩
        have HB2 := Lib.hid (HB1.out.on hb2)
        clear hb2
        go_wp2_with fail
        refine (HNO.out _ HB2.out).mono ?_
        rintro e w3 ⟨rfl, hb3⟩
        have HB3 := Lib.hid (HB2.out.on hb3)
        clear hb3
        go_wp2_with fail
        refine (works4_any _).mono ?_
        rintro e w4 ⟨rfl, hb4⟩
        have HB4 := Lib.hid (HB3.out.on hb4)
        clear hb4
        go_wp2
        go_ret
        exact ⟨rfl, HB4.out⟩
      case pos =>
        obtain ⟨N, rfl, _⟩ := may_good hm
        obtain ⟨T, hT⟩ := tells_of hm
        cases ht : T.1 with
        | some i =>
          have HCL := Lib.hid (fun W (hW : Bel w W) => solve_clash hT (by rw [ht]; simp) hm G A ln lk len cap HLQ.out HLL.out W (HG.out.bel hW) (HQ.out.bel hW))
          clear hT hm hlm ht
          go_enter Try.func7, Try.ntmps7
          go_wp2_with fail
          refine (HGR.out _).mono ?_
          rintro e w1 ⟨rfl, hb1⟩
          have HB1 := Lib.hid (HB0.out.on hb1)
          clear hb1
          go_wp2_with fail
          refine (HGR2.out _).mono ?_
          rintro e w2 ⟨rfl, hb2⟩
          have HB2 := Lib.hid (HB1.out.on hb2)
          clear hb2
          go_wp2_with fail
          refine (HCL.out _ HB2.out).mono ?_
          rintro e w3 ⟨A3, k3, c3, rfl, hb3⟩
          have HB3 := Lib.hid (HB2.out.on hb3)
          clear hb3
          go_wp2_with fail
          refine (works4_any _).mono ?_
          rintro e w4 ⟨rfl, hb4⟩
          have HB4 := Lib.hid (HB3.out.on hb4)
          clear hb4
          go_wp2
          go_ret
          exact ⟨rfl, HB4.out⟩
        | none =>
          obtain ⟨a1, a2, a3⟩ := hT.solves ht
          have hm2 := told_may hm hT ht
          have HS1 := Lib.hid (fun W (hW : Bel w W) => solve_same hT ht hm G A ln lk len cap HLQ.out HLL.out W (HG.out.bel hW) (HQ.out.bel hW))
          have hT2 : Tells N T.2.1 xs T := by
            refine ⟨fun h => ⟨a1, a2, fun v hv => ⟨(a3 v hv).1, (a3 v hv).2.1, by rw [low0_self a1]; exact Int.le_refl _⟩⟩, fun S hS hlo => ⟨ht, fun v hv => by have := hlo v hv; rw [low0_self a1] at this; exact this⟩⟩
          have HS2 := Lib.hid (fun W (hW : Bel w W) (ga : Nat) (hr : RI .u8 W W.heap.size (some ⟨ga, 0, none⟩) N T.2.1) => solve_same hT2 ht hm2 (some ⟨ga, 0, none⟩) A N N len cap HLQ.out a1.symm W hr (HQ.out.bel hW))
          obtain ⟨sv, hsv⟩ : ∃ sv, sv = T.2.1 := ⟨_, rfl⟩
          rw [← hsv] at HS1 HS2 a1 a3 hm2
          have HA1 := Lib.hid a1
          have HCLN := Lib.hid (fun W (hW : Bel w W) => cloneQ_any A len cap xs W (HQ.out.bel hW) (by omega))
          have HCLM := Lib.hid (fun W (hW : Bel w W) => cloneQ_any M mn mk ys W (HY.out.bel hW) (by omega))
          have HEQ := Lib.hid (fun (W : World) (ga gb : Nat) (h1 : RI .u8 W W.heap.size (some ⟨ga, 0, none⟩) N sv) (h2 : RI .u8 W W.heap.size (some ⟨gb, 0, none⟩) N sv) => (show Calls Try.prog 17 #[.slice (some ⟨ga, 0, none⟩) N N, .slice (some ⟨gb, 0, none⟩) N N] W fun e w' => e = .returned (.bool true) ∧ Bel W w' by
            have h := mequal_any (some ⟨ga, 0, none⟩) (some ⟨gb, 0, none⟩) N N N N sv sv W h1 h2 (by omega) (by omega)
            rw [decide_eq_true rfl] at h
            exact h))
          obtain ⟨m1, m2⟩ := more_may (ys := ys) hm (by rw [← HLQ.out, ← HLY.out]; omega)
          obtain ⟨_, m4⟩ := more_may (ys := ys) hm2 (by rw [← HLQ.out, ← HLY.out]; omega)
          have hxl : (xs ++ ys).length = len + mn := by rw [List.length_append, ← HLQ.out, ← HLY.out]
          have hyl : (ys ++ xs).length = mn + len := by rw [List.length_append, ← HLQ.out, ← HLY.out]
          -- the walk up to the two lists
          cases hbad : ys.any (badQ N) with
          | true =>
            rw [hbad, if_pos rfl] at m1 m4
            have HN3 := Lib.hid (fun W (hW : Bel w W) A' cap' (hq : RQ W W.heap.size A' (len + mn) (xs ++ ys)) => solve_no N G A' ln lk (len + mn) cap' low (xs ++ ys) W (HG.out.bel hW) hq hlm (by rw [m1]; omega))
            have HN4 := Lib.hid (fun W ga A' cap' (hr : RI .u8 W W.heap.size (some ⟨ga, 0, none⟩) N sv) (hq : RQ W W.heap.size A' (mn + len) (ys ++ xs)) => solve_no N (some ⟨ga, 0, none⟩) A' N N (mn + len) cap' sv (ys ++ xs) W hr hq (by omega) (by rw [m4]; omega))
            rw [m1] at HN3
            rw [m4] at HN4
            clear hT hm hm2 ht hT2 hsv a1 a2 a3 m1 m2 m4 hxl hyl hbad hlm
            go_enter Try.func7, Try.ntmps7
            go_wp2_with fail
            refine (HGR.out _).mono ?_
            rintro e w1 ⟨rfl, hb1⟩
            have HB1 := Lib.hid (HB0.out.on hb1)
            clear hb1
            go_wp2_with fail
            refine (HGR2.out _).mono ?_
            rintro e w2 ⟨rfl, hb2⟩
            have HB2 := Lib.hid (HB1.out.on hb2)
            clear hb2
            go_wp2_with fail
            refine (HS1.out _ HB2.out).mono ?_
            rintro e w3 ⟨ga, rfl, ha3, _, hb3⟩
            have HR3 := Lib.hid (ha3.ri (n := N) HA1.out.symm)
            have HB3 := Lib.hid (HB2.out.on hb3)
            clear ha3 hb3
            go_wp2_with fail
            refine (HS2.out _ HB3.out _ HR3.out).mono ?_
            rintro e w4 ⟨gb, rfl, ha4, _, hb4⟩
            have HRB4 := Lib.hid (ha4.ri (n := N) HA1.out.symm)
            have HR4 := Lib.hid (HR3.out.bel hb4)
            have HB4 := Lib.hid (HB3.out.on hb4)
            clear ha4 hb4
            go_wp2_with fail
            refine (HEQ.out _ _ _ HR4.out HRB4.out).mono ?_
            rintro e w5 ⟨rfl, hb5⟩
            have HR5 := Lib.hid (HR4.out.bel hb5)
            have HB5 := Lib.hid (HB4.out.on hb5)
            clear hb5
            go_wp2_with fail
            refine (HCLN.out _ HB5.out).mono ?_
            rintro e w6 ⟨A6, c6, rfl, ho6, hb6⟩
            have HR6 := Lib.hid (HR5.out.bel hb6)
            have HO6 := Lib.hid ho6
            have HB6 := Lib.hid (HB5.out.on hb6)
            have HBC := Lib.hid hb6
            have HZ5 := Lib.hid HB5.out.size
            have HZ6 := Lib.hid hb6.size
            clear ho6 hb6
            go_wp2_with (at_builtin; refine wpList_append_rq rfl _ _ 35 rfl w5.heap.size 31 _ rfl Try.underlying35 info_ineq A6 len c6 xs rfl HO6.out w6.heap.size M mn mk ys rfl (HY.out.bel HB6.out) (by omega) HZ6.out ?_; intro A7 c7 w7 hown7 hg7)
            have HB7 : Hid (Bel w w7) := Lib.hid (Below.grown HB6.out hg7 HB6.out.size (fun x hx => Nat.le_trans HZ5.out (HO6.out.lt x hx).1))
            have HQ7 := Lib.hid (RQ.of_own hown7)
            have HR7 := Lib.hid (HR5.out.bel (Below.grown (a := w5) (B := w5.heap.size) (HBC.out) hg7 HZ6.out (fun x hx => (HO6.out.lt x hx).1)))
            clear hown7 hg7
            go_wp2_with fail
            refine (HN3.out _ HB7.out _ _ HQ7.out).mono ?_
            rintro e w8 ⟨rfl, hb8⟩
            have HB8 := Lib.hid (HB7.out.on hb8)
            have HR8 := Lib.hid (HR7.out.bel hb8)
            clear hb8
            go_wp2_with fail
            refine (HCLM.out _ HB8.out).mono ?_
            rintro e w9 ⟨A9, c9, rfl, ho9, hb9⟩
            have HO9 := Lib.hid ho9
            have HB9 := Lib.hid (HB8.out.on hb9)
            have HBD := Lib.hid hb9
            have HZ8 := Lib.hid HB8.out.size
            have HZ9 := Lib.hid hb9.size
            clear ho9 hb9
            go_wp2_with (at_builtin; refine wpList_append_rq rfl _ _ 35 rfl w8.heap.size 31 _ rfl Try.underlying35 info_ineq A9 mn c9 ys rfl HO9.out w9.heap.size A len cap xs rfl (HQ.out.bel HB9.out) (by omega) HZ9.out ?_; intro A10 c10 w10 hown10 hg10)
            have HB10 : Hid (Bel w w10) := Lib.hid (Below.grown HB9.out hg10 HB9.out.size (fun x hx => Nat.le_trans HZ8.out (HO9.out.lt x hx).1))
            have HQ10 := Lib.hid (RQ.of_own hown10)
            have hbe10 : Bel w8 w10 := Below.grown (a := w8) (B := w8.heap.size) HBD.out hg10 HZ9.out (fun x hx => (HO9.out.lt x hx).1)
            have HBE10 := Lib.hid hbe10
            have HR10 := Lib.hid (HR8.out.bel hbe10)
            clear hown10 hg10 hbe10
            go_wp2_with fail
            refine (HN4.out _ _ _ _ HR10.out HQ10.out).mono ?_
            rintro e w11 ⟨rfl, hb11⟩
            have HB11 := Lib.hid (HB10.out.on hb11)
            clear hb11
            go_wp2_with fail
            refine (works4_any _).mono ?_
            rintro e w12 ⟨rfl, hb12⟩
            have HB12 := Lib.hid (HB11.out.on hb12)
            clear hb12
            go_wp2
            go_ret
            exact ⟨rfl, HB12.out⟩
          | false =>
            rw [hbad, if_neg (by simp)] at m1 m4
            obtain ⟨T3, hT3⟩ := tells_of m1
            obtain ⟨T4, hT4⟩ := tells_of m4
            rw [hsv] at hT4
            obtain ⟨q1, q2⟩ := again_more hT ht hT3 hT4
            rw [← hsv] at hT4 q2
            cases h3 : T3.1 with
            | some i =>
              have h4 : T4.1 ≠ none := fun h => by have := q1.2 h; rw [h3] at this; cases this
              have HN3 := Lib.hid (fun W (hW : Bel w W) A' cap' (hq : RQ W W.heap.size A' (len + mn) (xs ++ ys)) => solve_clash hT3 (by rw [h3]; simp) m1 G A' ln lk (len + mn) cap' hxl.symm HLL.out W (HG.out.bel hW) hq)
              have HN4 := Lib.hid (fun W ga A' cap' (hr : RI .u8 W W.heap.size (some ⟨ga, 0, none⟩) N sv) (hq : RQ W W.heap.size A' (mn + len) (ys ++ xs)) => solve_clash hT4 h4 m4 (some ⟨ga, 0, none⟩) A' N N (mn + len) cap' hyl.symm HA1.out.symm W hr hq)
              clear hT hm hm2 ht hT2 hsv a1 a2 a3 m1 m2 m4 hxl hyl hbad hlm hT3 hT4 q1 q2 h3 h4
              go_enter Try.func7, Try.ntmps7
              go_wp2_with fail
              refine (HGR.out _).mono ?_
              rintro e w1 ⟨rfl, hb1⟩
              have HB1 := Lib.hid (HB0.out.on hb1)
              clear hb1
              go_wp2_with fail
              refine (HGR2.out _).mono ?_
              rintro e w2 ⟨rfl, hb2⟩
              have HB2 := Lib.hid (HB1.out.on hb2)
              clear hb2
              go_wp2_with fail
              refine (HS1.out _ HB2.out).mono ?_
              rintro e w3 ⟨ga, rfl, ha3, _, hb3⟩
              have HR3 := Lib.hid (ha3.ri (n := N) HA1.out.symm)
              have HB3 := Lib.hid (HB2.out.on hb3)
              clear ha3 hb3
              go_wp2_with fail
              refine (HS2.out _ HB3.out _ HR3.out).mono ?_
              rintro e w4 ⟨gb, rfl, ha4, _, hb4⟩
              have HRB4 := Lib.hid (ha4.ri (n := N) HA1.out.symm)
              have HR4 := Lib.hid (HR3.out.bel hb4)
              have HB4 := Lib.hid (HB3.out.on hb4)
              clear ha4 hb4
              go_wp2_with fail
              refine (HEQ.out _ _ _ HR4.out HRB4.out).mono ?_
              rintro e w5 ⟨rfl, hb5⟩
              have HR5 := Lib.hid (HR4.out.bel hb5)
              have HB5 := Lib.hid (HB4.out.on hb5)
              clear hb5
              go_wp2_with fail
              refine (HCLN.out _ HB5.out).mono ?_
              rintro e w6 ⟨A6, c6, rfl, ho6, hb6⟩
              have HR6 := Lib.hid (HR5.out.bel hb6)
              have HO6 := Lib.hid ho6
              have HB6 := Lib.hid (HB5.out.on hb6)
              have HBC := Lib.hid hb6
              have HZ5 := Lib.hid HB5.out.size
              have HZ6 := Lib.hid hb6.size
              clear ho6 hb6
              go_wp2_with (at_builtin; refine wpList_append_rq rfl _ _ 35 rfl w5.heap.size 31 _ rfl Try.underlying35 info_ineq A6 len c6 xs rfl HO6.out w6.heap.size M mn mk ys rfl (HY.out.bel HB6.out) (by omega) HZ6.out ?_; intro A7 c7 w7 hown7 hg7)
              have HB7 : Hid (Bel w w7) := Lib.hid (Below.grown HB6.out hg7 HB6.out.size (fun x hx => Nat.le_trans HZ5.out (HO6.out.lt x hx).1))
              have HQ7 := Lib.hid (RQ.of_own hown7)
              have HR7 := Lib.hid (HR5.out.bel (Below.grown (a := w5) (B := w5.heap.size) (HBC.out) hg7 HZ6.out (fun x hx => (HO6.out.lt x hx).1)))
              clear hown7 hg7
              go_wp2_with fail
              refine (HN3.out _ HB7.out _ _ HQ7.out).mono ?_
              rintro e w8 ⟨A8, k8, c8, rfl, hb8⟩
              have HB8 := Lib.hid (HB7.out.on hb8)
              have HR8 := Lib.hid (HR7.out.bel hb8)
              clear hb8
              go_wp2_with fail
              refine (HCLM.out _ HB8.out).mono ?_
              rintro e w9 ⟨A9, c9, rfl, ho9, hb9⟩
              have HO9 := Lib.hid ho9
              have HB9 := Lib.hid (HB8.out.on hb9)
              have HBD := Lib.hid hb9
              have HZ8 := Lib.hid HB8.out.size
              have HZ9 := Lib.hid hb9.size
              clear ho9 hb9
              go_wp2_with (at_builtin; refine wpList_append_rq rfl _ _ 35 rfl w8.heap.size 31 _ rfl Try.underlying35 info_ineq A9 mn c9 ys rfl HO9.out w9.heap.size A len cap xs rfl (HQ.out.bel HB9.out) (by omega) HZ9.out ?_; intro A10 c10 w10 hown10 hg10)
              have HB10 : Hid (Bel w w10) := Lib.hid (Below.grown HB9.out hg10 HB9.out.size (fun x hx => Nat.le_trans HZ8.out (HO9.out.lt x hx).1))
              have HQ10 := Lib.hid (RQ.of_own hown10)
              have hbe10 : Bel w8 w10 := Below.grown (a := w8) (B := w8.heap.size) HBD.out hg10 HZ9.out (fun x hx => (HO9.out.lt x hx).1)
              have HBE10 := Lib.hid hbe10
              have HR10 := Lib.hid (HR8.out.bel hbe10)
              clear hown10 hg10 hbe10
              go_wp2_with fail
              refine (HN4.out _ _ _ _ HR10.out HQ10.out).mono ?_
              rintro e w11 ⟨A11, k11, c11, rfl, hb11⟩
              have HB11 := Lib.hid (HB10.out.on hb11)
              clear hb11
              go_wp2_with fail
              refine (works4_any _).mono ?_
              rintro e w12 ⟨rfl, hb12⟩
              have HB12 := Lib.hid (HB11.out.on hb12)
              clear hb12
              go_wp2
              go_ret
              exact ⟨rfl, HB12.out⟩
            | none =>
              have h4 := q1.1 h3
              obtain ⟨e34, hle⟩ := q2 h3
              have HC3 := Lib.hid ((hT3.solves h3).1)
              have HN3 := Lib.hid (fun W (hW : Bel w W) A' cap' (hq : RQ W W.heap.size A' (len + mn) (xs ++ ys)) => solve_same hT3 h3 m1 G A' ln lk (len + mn) cap' hxl.symm HLL.out W (HG.out.bel hW) hq)
              have HN4 := Lib.hid (fun W ga A' cap' (hr : RI .u8 W W.heap.size (some ⟨ga, 0, none⟩) N sv) (hq : RQ W W.heap.size A' (mn + len) (ys ++ xs)) => solve_same hT4 h4 m4 (some ⟨ga, 0, none⟩) A' N N (mn + len) cap' hyl.symm HA1.out.symm W hr hq)
              rw [← e34] at HN4
              obtain ⟨cv, hcv⟩ : ∃ cv, cv = T3.2.1 := ⟨_, rfl⟩
              rw [← hcv] at HN3 HN4 HC3 hle
              have HLE := Lib.hid hle
              have HEQ2 := Lib.hid (fun (W : World) (ga gb : Nat) (h1 : RI .u8 W W.heap.size (some ⟨ga, 0, none⟩) N cv) (h2 : RI .u8 W W.heap.size (some ⟨gb, 0, none⟩) N cv) => (show Calls Try.prog 17 #[.slice (some ⟨ga, 0, none⟩) N N, .slice (some ⟨gb, 0, none⟩) N N] W fun e w' => e = .returned (.bool true) ∧ Bel W w' by
                have h := mequal_any (some ⟨ga, 0, none⟩) (some ⟨gb, 0, none⟩) N N N N cv cv W h1 h2 (by omega) (by omega)
                rw [decide_eq_true rfl] at h
                exact h))
              clear hT hm hm2 ht hT2 hsv a1 a2 a3 m1 m2 m4 hxl hyl hbad hlm hT3 hT4 q1 q2 h3 h4 hle e34 hcv
              go_enter Try.func7, Try.ntmps7
              go_wp2_with fail
              refine (HGR.out _).mono ?_
              rintro e w1 ⟨rfl, hb1⟩
              have HB1 := Lib.hid (HB0.out.on hb1)
              clear hb1
              go_wp2_with fail
              refine (HGR2.out _).mono ?_
              rintro e w2 ⟨rfl, hb2⟩
              have HB2 := Lib.hid (HB1.out.on hb2)
              clear hb2
              go_wp2_with fail
              refine (HS1.out _ HB2.out).mono ?_
              rintro e w3 ⟨ga, rfl, ha3, _, hb3⟩
              have HR3 := Lib.hid (ha3.ri (n := N) HA1.out.symm)
              have HB3 := Lib.hid (HB2.out.on hb3)
              clear ha3 hb3
              go_wp2_with fail
              refine (HS2.out _ HB3.out _ HR3.out).mono ?_
              rintro e w4 ⟨gb, rfl, ha4, _, hb4⟩
              have HRB4 := Lib.hid (ha4.ri (n := N) HA1.out.symm)
              have HR4 := Lib.hid (HR3.out.bel hb4)
              have HB4 := Lib.hid (HB3.out.on hb4)
              clear ha4 hb4
              go_wp2_with fail
              refine (HEQ.out _ _ _ HR4.out HRB4.out).mono ?_
              rintro e w5 ⟨rfl, hb5⟩
              have HR5 := Lib.hid (HR4.out.bel hb5)
              have HB5 := Lib.hid (HB4.out.on hb5)
              clear hb5
              go_wp2_with fail
              refine (HCLN.out _ HB5.out).mono ?_
              rintro e w6 ⟨A6, c6, rfl, ho6, hb6⟩
              have HR6 := Lib.hid (HR5.out.bel hb6)
              have HO6 := Lib.hid ho6
              have HB6 := Lib.hid (HB5.out.on hb6)
              have HBC := Lib.hid hb6
              have HZ5 := Lib.hid HB5.out.size
              have HZ6 := Lib.hid hb6.size
              clear ho6 hb6
              go_wp2_with (at_builtin; refine wpList_append_rq rfl _ _ 35 rfl w5.heap.size 31 _ rfl Try.underlying35 info_ineq A6 len c6 xs rfl HO6.out w6.heap.size M mn mk ys rfl (HY.out.bel HB6.out) (by omega) HZ6.out ?_; intro A7 c7 w7 hown7 hg7)
              have HB7 : Hid (Bel w w7) := Lib.hid (Below.grown HB6.out hg7 HB6.out.size (fun x hx => Nat.le_trans HZ5.out (HO6.out.lt x hx).1))
              have HQ7 := Lib.hid (RQ.of_own hown7)
              have HR7 := Lib.hid (HR5.out.bel (Below.grown (a := w5) (B := w5.heap.size) (HBC.out) hg7 HZ6.out (fun x hx => (HO6.out.lt x hx).1)))
              clear hown7 hg7
              go_wp2_with fail
              refine (HN3.out _ HB7.out _ _ HQ7.out).mono ?_
              rintro e w8 ⟨gc, rfl, ha8, _, hb8⟩
              have HRC8 := Lib.hid (ha8.ri (n := N) HC3.out.symm)
              have HB8 := Lib.hid (HB7.out.on hb8)
              have HR8 := Lib.hid (HR7.out.bel hb8)
              clear ha8 hb8
              go_wp2_with fail
              refine (HCLM.out _ HB8.out).mono ?_
              rintro e w9 ⟨A9, c9, rfl, ho9, hb9⟩
              have HO9 := Lib.hid ho9
              have HB9 := Lib.hid (HB8.out.on hb9)
              have HBD := Lib.hid hb9
              have HZ8 := Lib.hid HB8.out.size
              have HZ9 := Lib.hid hb9.size
              clear ho9 hb9
              go_wp2_with (at_builtin; refine wpList_append_rq rfl _ _ 35 rfl w8.heap.size 31 _ rfl Try.underlying35 info_ineq A9 mn c9 ys rfl HO9.out w9.heap.size A len cap xs rfl (HQ.out.bel HB9.out) (by omega) HZ9.out ?_; intro A10 c10 w10 hown10 hg10)
              have HB10 : Hid (Bel w w10) := Lib.hid (Below.grown HB9.out hg10 HB9.out.size (fun x hx => Nat.le_trans HZ8.out (HO9.out.lt x hx).1))
              have HQ10 := Lib.hid (RQ.of_own hown10)
              have hbe10 : Bel w8 w10 := Below.grown (a := w8) (B := w8.heap.size) HBD.out hg10 HZ9.out (fun x hx => (HO9.out.lt x hx).1)
              have HBE10 := Lib.hid hbe10
              have HR10 := Lib.hid (HR8.out.bel hbe10)
              clear hown10 hg10 hbe10
              have HRC10 := Lib.hid (HRC8.out.bel HBE10.out)
              go_wp2_with fail
              refine (HN4.out _ _ _ _ HR10.out HQ10.out).mono ?_
              rintro e w11 ⟨gd, rfl, ha11, _, hb11⟩
              have HRD11 := Lib.hid (ha11.ri (n := N) HC3.out.symm)
              have HRC11 := Lib.hid (HRC10.out.bel hb11)
              have HR11 := Lib.hid (HR10.out.bel hb11)
              have HB11 := Lib.hid (HB10.out.on hb11)
              clear ha11 hb11
              go_wp2_with fail
              go_loopw [96] (fun kv wr => ∃ j : Nat, j ≤ N ∧ kv = .int .i64 (j : Int) ∧ Hid (Bel w11 wr)) (fun kv _ => N - (intOf kv).toNat)
              case atStart => exact ⟨0, Nat.zero_le _, rfl, Lib.hid (Bel.refl _)⟩
              case round =>
                obtain ⟨j, hj, rfl, HBX⟩ := hrel
                by_cases hlt : j < N
                case pos =>
                  have hl := HLE.out j hlt
                  obtain ⟨b1, o1, e1, _, hc1⟩ := (HR11.out.bel HBX.out).at_ (by omega)
                  obtain ⟨b2, o2, e2, _, hc2⟩ := (HRC11.out.bel HBX.out).at_ (by omega)
                  injection e1 with e1; injection e1 with e1 e1'
                  injection e2 with e2; injection e2 with e2 e2'
                  subst e1 e1' e2 e2'
                  have c1 := hc1 j hlt
                  have c2 := hc2 j hlt
                  rw [Nat.zero_add] at c1 c2
                  obtain ⟨y, hy⟩ : ∃ y, sv[j]?.getD 0 = y := ⟨_, rfl⟩
                  obtain ⟨z, hz⟩ : ∃ z, cv[j]?.getD 0 = z := ⟨_, rfl⟩
                  rw [hy] at c1 hl
                  rw [hz] at c2 hl
                  have i1 : (0 : Int) ≤ (j : Int) := by omega
                  have i2 : (j : Int) < (N : Int) := by omega
                  have i3 : ¬ (N : Int) ≤ (j : Int) := by omega
                  have i4 : decide ((N : Int) ≤ (j : Int)) = false := by simp; omega
                  have i5 : decide (N ≤ j) = false := by simp; omega
                  have q1 : ¬ z < y := by omega
                  have q1' : decide (z < y) = false := by simpa using q1
                  clear hc1 hc2 hy hz hl
                  go_wp2_with fail
                  go_roundw
                  case rel => exact ⟨j + 1, by omega, by go_num, HBX⟩
                  case measure => simp [intOf]; omega
                case neg =>
                  obtain rfl : j = N := by omega
                  go_wp2_with fail
                  refine (HEQ2.out _ _ _ (HRC11.out.bel HBX.out) (HRD11.out.bel HBX.out)).mono ?_
                  rintro e w13 ⟨rfl, hb13⟩
                  have HB13 := Lib.hid ((HB11.out.on HBX.out).on hb13)
                  clear hb13
                  go_wp2_with fail
                  refine (works4_any _).mono ?_
                  rintro e w14 ⟨rfl, hb14⟩
                  have HB14 := Lib.hid (HB13.out.on hb14)
                  clear hb14
                  go_wp2
                  go_ret
                  exact ⟨rfl, HB14.out⟩
end Go.Proofs.Ytjgpkolfcpoinaa.Mu

