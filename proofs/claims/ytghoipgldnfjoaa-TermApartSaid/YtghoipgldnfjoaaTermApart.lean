/-
  The statement TermApart, walked.
-/
import Derived.Test.YtghoipgldnfjoaaApartMath
import Derived.Test.YtghoipgldnfjoaaArr
import Derived.Test.YtghoipgldnfjoaaTermX
import Derived.Deep.OwnRows
import Derived.Deep.RegionLaw
namespace Go.Proofs.Ytghoipgldnfjoaa.Mu
open Go.ChangeShapes Go.WideShapes Go.ChangeAt Go.RowKit

theorem info_u8 : (Try.prog.info? 30).map (fun i => (i.zero, i.size, i.bytes)) = some (some (.int .u8 0), 1, 1) := by kernel_rfl
theorem deq_beq (x y : Int) : decide (x = y) = (x == y) := by
  by_cases h : x = y <;> simp [h]
theorem blk_one {w : World} {g : Nat} {t : TypeId} {x : Value} (h : w.heap[g]? = some (.cells #[x] t (0, 0))) : w.cell? ⟨g, 0, none⟩ = some x ∧ w.frozen? ⟨g, 0, none⟩ = false := by simp [World.cell?, World.frozen?, h]

set_option maxRecDepth 100000 in
set_option maxHeartbeats 1000000 in
theorem apart1_any (ga gs gb : Nat) (na : Bool) (ca : Int) (A : Option Addr) (n k : Nat) (la : List Int) (nb : Bool) (cb : Int) (B : Option Addr) (m j : Nat) (lb : List Int) (G : Option Addr) (gn gc : Nat) (av : List Int) (w : World)
    (hka : w.heap[ga]? = some (.cells #[.bool na, .int .u8 ca, .slice A n k] 33 (0, 0))) (hks : w.heap[gs]? = some (.cells #[.slice G gn gc] 41 (0, 0))) (hkb : w.heap[gb]? = some (.cells #[.bool nb, .int .u8 cb, .slice B m j] 33 (0, 0)))
    (ra : RI .i64 w w.heap.size A n la) (rb : RI .i64 w w.heap.size B m lb) (rg : RI .u8 w w.heap.size G gn av) (hn : n ≤ 1000000000) (hm : m ≤ 1000000000) (hg : gn ≤ 9223372036854775807) :
    Calls Try.prog 36 #[.pointer (some ⟨ga, 0, none⟩), .pointer (some ⟨gs, 0, none⟩), .pointer (some ⟨gb, 0, none⟩)] w fun e w' => e = .returned (.bool (alikeB na ca la nb cb lb av)) ∧ Bel w w' := by
  have HKA := Lib.hid hka
  have HKS := Lib.hid hks
  have HKB := Lib.hid hkb
  have E : Hid (alikeB na ca la nb cb lb av = ((atE na ca la av == 0) && (atE nb cb lb av == 0) && (atR na ca la av == atR nb cb lb av))) := Lib.hid (by
    unfold alikeB; rw [deq_beq, deq_beq, deq_beq])
  have H1 : Hid (∀ W, Bel w W → Calls Try.prog 26 #[.agg #[.bool na, .int .u8 ca, .slice A n k], .slice G gn gc] W (Tells2 (atR na ca la av) (atE na ca la av) W)) := Lib.hid fun W hW => at_any na ca A G n k gn gc la av W (ra.bel hW) (rg.bel hW) hn hg
  have H2 : Hid (∀ W, Bel w W → Calls Try.prog 26 #[.agg #[.bool nb, .int .u8 cb, .slice B m j], .slice G gn gc] W (Tells2 (atR nb cb lb av) (atE nb cb lb av) W)) := Lib.hid fun W hW => at_any nb cb B G m j gn gc lb av W (rb.bel hW) (rg.bel hW) hm hg
  obtain ⟨u1, hu1⟩ : ∃ u, u = atR na ca la av := ⟨_, rfl⟩
  obtain ⟨u2, hu2⟩ : ∃ u, u = atR nb cb lb av := ⟨_, rfl⟩
  obtain ⟨x1, hx1⟩ : ∃ u, u = atE na ca la av := ⟨_, rfl⟩
  obtain ⟨x2, hx2⟩ : ∃ u, u = atE nb cb lb av := ⟨_, rfl⟩
  rw [← hu1, ← hu2, ← hx1, ← hx2] at E
  rw [← hu1, ← hx1] at H1
  rw [← hu2, ← hx2] at H2
  clear hu1 hu2 hx1 hx2 ra rb rg hka hks hkb
  obtain ⟨b1, y1⟩ : ∃ b, (x1 == 0) = b := ⟨_, rfl⟩
  obtain ⟨b2, y2⟩ : ∃ b, (x2 == 0) = b := ⟨_, rfl⟩
  obtain ⟨b3, y3⟩ : ∃ b, (u1 == u2) = b := ⟨_, rfl⟩
  rw [y1, y2, y3] at E
  cases b1 <;> cases b2 <;> cases b3
  all_goals
    obtain ⟨a0, a1, a2, _, _, _⟩ := cells3 HKA.out
    obtain ⟨s0, _⟩ := blk_one HKS.out
    go_enter Try.func36, Try.ntmps36
    go_wp2_with fail
    refine (H1.out _ (Bel.refl _)).mono ?_
    clear a0 a1 a2 s0
    rintro e w1 ⟨rfl, hb1⟩
    have HB1 := Lib.hid hb1
    obtain ⟨a0, a1, a2, _, _, _⟩ := cells3 (hb1.blk HKB.out)
    obtain ⟨s0, _⟩ := blk_one (hb1.blk HKS.out)
    clear hb1
    go_wp2_with fail
    refine (H2.out _ HB1.out).mono ?_
    clear a0 a1 a2 s0
    rintro e w2 ⟨rfl, hb2⟩
    have HB2 := Lib.hid (HB1.out.on hb2)
    clear hb2
    go_wp2_with fail
    go_ret
    exact ⟨ret_bool E.out.symm, HB2.out⟩

theorem may_yes' {nv : Bool} {c : Int} {l : List Int} (h : mayB nv c l = true) (A : Option Addr) (n cap : Nat) (w : World) (hr : RI .i64 w w.heap.size A n l) (hmax : n ≤ 9223372036854775807) :
    Calls Try.prog 34 #[.agg #[.bool nv, .int .u8 c, .slice A n cap]] w fun e w' => e = .returned (.int .i64 0) ∧ Bel w w' := by
  have := may_any nv c A n cap l w hr hmax; rw [h] at this; exact this
theorem may_no' {nv : Bool} {c : Int} {l : List Int} (h : mayB nv c l = false) (A : Option Addr) (n cap : Nat) (w : World) (hr : RI .i64 w w.heap.size A n l) (hmax : n ≤ 9223372036854775807) :
    Calls Try.prog 34 #[.agg #[.bool nv, .int .u8 c, .slice A n cap]] w fun e w' => e = .returned (.int .i64 2) ∧ Bel w w' := by
  have := may_any nv c A n cap l w hr hmax; rw [h] at this; exact this
theorem great2d_any (r q : Raw) (cap g : Nat) (W : World) (hg : g = W.heap.size) :
    Calls Try.prog 18 #[.slice (some ⟨g, 0, none⟩) 2 cap] (W.alloc (.cells #[.bool r.nv, .int .u8 r.c, .slice r.A r.n r.k, .bool q.nv, .int .u8 q.c, .slice q.A q.n q.k] 33)) fun e w' => e = .returned (.bool (greatB [r, q])) ∧ Bel (W.alloc (.cells #[.bool r.nv, .int .u8 r.c, .slice r.A r.n r.k, .bool q.nv, .int .u8 q.c, .slice q.A q.n q.k] 33)) w' := by
  subst hg
  exact great_any _ 2 cap _ _ ((rt_two W r q).more (by simp)) (by omega)
theorem great2d_no {r q : Raw} (h : greatB [r, q] = false) : r.n ≤ 5000 ∧ q.n ≤ 5000 := by
  unfold greatB greatN at h
  rw [decide_eq_false_iff_not] at h
  simp only [List.map_cons, List.map_nil, List.sum_cons, List.sum_nil] at h
  by_cases a : 5000 < (r.n : Int) <;> by_cases b : 5000 < (q.n : Int) <;> simp [a, b] at h <;> omega

set_option maxRecDepth 100000 in
set_option maxHeartbeats 4000000 in
theorem termApart_any (na : Bool) (ca : Int) (A : Option Addr) (n k : Nat) (la : List Int) (nb : Bool) (cb : Int) (B : Option Addr) (m j : Nat) (lb : List Int) (w : World) (ra : RI .i64 w w.heap.size A n la) (rb : RI .i64 w w.heap.size B m lb) (hn : n ≤ 9223372036854775807) (hm : m ≤ 9223372036854775807) :
    Calls Try.prog 7 #[.agg #[.bool na, .int .u8 ca, .slice A n k], .agg #[.bool nb, .int .u8 cb, .slice B m j]] w fun e w' => e = .returned (.bool true) ∧ Bel w w' := by
  have HA := Lib.hid ra
  have HB := Lib.hid rb
  have HLA := Lib.hid ra.len
  have HLB := Lib.hid rb.len
  clear ra rb
  obtain ⟨gr, hgr⟩ : ∃ b, greatB [⟨na, ca, A, n, k⟩, ⟨nb, cb, B, m, j⟩] = b := ⟨_, rfl⟩
  have HGR : Hid (∀ (W : World) (cap g : Nat), g = W.heap.size → Calls Try.prog 18 #[.slice (some ⟨g, 0, none⟩) 2 cap] (W.alloc (.cells #[.bool na, .int .u8 ca, .slice A n k, .bool nb, .int .u8 cb, .slice B m j] 33)) fun e w' => e = .returned (.bool gr) ∧ Bel (W.alloc (.cells #[.bool na, .int .u8 ca, .slice A n k, .bool nb, .int .u8 cb, .slice B m j] 33)) w') := Lib.hid fun W cap g hg => by
    have h := great2d_any ⟨na, ca, A, n, k⟩ ⟨nb, cb, B, m, j⟩ cap g W hg; rw [hgr] at h; exact h
  have HWk : Hid (∀ (W : World), Calls Try.prog 19 #[] W fun e w' => e = .returned (.bool true) ∧ Bel W w') := Lib.hid fun W => works2_any W
  have HMA0 : Hid (∀ b, mayB na ca la = b → ∀ W, Bel w W → Calls Try.prog 34 #[.agg #[.bool na, .int .u8 ca, .slice A n k]] W fun e w' => e = .returned (.int .i64 (errF b)) ∧ Bel W w') := Lib.hid fun b hb W hW => by
    have := may_any na ca A n k la W (HA.out.bel hW) hn; rw [hb] at this; exact this
  have HMB0 : Hid (∀ b, mayB nb cb lb = b → ∀ W, Bel w W → Calls Try.prog 34 #[.agg #[.bool nb, .int .u8 cb, .slice B m j]] W fun e w' => e = .returned (.int .i64 (errF b)) ∧ Bel W w') := Lib.hid fun b hb W hW => by
    have := may_any nb cb B m j lb W (HB.out.bel hW) hm; rw [hb] at this; exact this
  cases gr
  case true =>
    clear hgr
    go_enter Try.func7, Try.ntmps7
    go_wp2_with fail
    refine (HGR.out _ _ _ (by simp)).mono ?_
    rintro e w1 ⟨rfl, hb⟩
    have HB1 : Hid (Bel w w1) := Lib.hid (((((Bel.refl w).alloc _).alloc _).alloc _).on hb)
    clear hb
    go_wp2_with fail
    refine (HWk.out _).mono ?_
    rintro e w2 ⟨rfl, hb⟩
    have HB2 := Lib.hid (HB1.out.on hb)
    clear hb
    go_wp2_with fail
    go_ret
    exact ⟨rfl, HB2.out⟩
  case false =>
    obtain ⟨s1, s2⟩ := great2d_no hgr
    simp only at s1 s2
    clear hgr
    cases hma : mayB na ca la
    case false =>
      have HMA := Lib.hid (HMA0.out _ hma)
      clear hma
      go_enter Try.func7, Try.ntmps7
      go_wp2_with fail
      refine (HGR.out _ _ _ (by simp)).mono ?_
      rintro e w1 ⟨rfl, hb⟩
      have HK := Lib.hid (hb.blk (blk3 w _ _ _).1)
      have HB1 : Hid (Bel w w1) := Lib.hid (((((Bel.refl w).alloc _).alloc _).alloc _).on hb)
      clear hb
      obtain ⟨a0, a1, a2, _, _, _⟩ := cells3 HK.out
      go_wp2_with fail
      refine (HMA.out _ HB1.out).mono ?_
      clear a0 a1 a2
      rintro e w2 ⟨rfl, hb⟩
      have HB2 := Lib.hid (HB1.out.on hb)
      clear hb
      go_wp2_with fail
      refine (HWk.out _).mono ?_
      rintro e w3 ⟨rfl, hb⟩
      have HB3 := Lib.hid (HB2.out.on hb)
      clear hb
      go_wp2_with fail
      go_ret
      exact ⟨rfl, HB3.out⟩
    case true =>
      have HMA := Lib.hid (HMA0.out _ hma)
      have HYA := Lib.hid hma
      clear hma
      obtain ⟨mb, hmb⟩ : ∃ b, mayB nb cb lb = b := ⟨_, rfl⟩
      have HMB := Lib.hid (HMB0.out _ hmb)
      go_enter Try.func7, Try.ntmps7
      go_wp2_with fail
      refine (HGR.out _ _ _ (by simp)).mono ?_
      rintro e w1 ⟨rfl, hb⟩
      have HKA1 := Lib.hid (hb.blk (blk3 w _ _ _).1)
      have HKB1 := Lib.hid (hb.blk (blk3 w _ _ _).2.1)
      have HB1 : Hid (Bel w w1) := Lib.hid (((((Bel.refl w).alloc _).alloc _).alloc _).on hb)
      clear hb
      obtain ⟨a0, a1, a2, _, _, _⟩ := cells3 HKA1.out
      go_wp2_with fail
      refine (HMA.out _ HB1.out).mono ?_
      clear a0 a1 a2
      rintro e w2 ⟨rfl, hb⟩
      have HKA2 := Lib.hid (hb.blk HKA1.out)
      have HKB2 := Lib.hid (hb.blk HKB1.out)
      have HB2 := Lib.hid (HB1.out.on hb)
      clear hb HKA1 HKB1
      obtain ⟨b0, b1, b2, _, _, _⟩ := cells3 HKB2.out
      go_wp2_with fail
      refine (HMB.out _ HB2.out).mono ?_
      clear b0 b1 b2
      rintro e w3 ⟨rfl, hb⟩
      have HKA3 := Lib.hid (hb.blk HKA2.out)
      have HKB3 := Lib.hid (hb.blk HKB2.out)
      have HB3 := Lib.hid (HB2.out.on hb)
      clear hb HKA2 HKB2
      cases mb
      case false =>
        clear hmb
        go_wp2_with fail
        refine (HWk.out _).mono ?_
        rintro e w4 ⟨rfl, hb⟩
        have HB4 := Lib.hid (HB3.out.on hb)
        clear hb
        go_wp2_with fail
        go_ret
        exact ⟨rfl, HB4.out⟩
      case true =>
        have HYB := Lib.hid hmb
        clear hmb HGR HMA HMB HMA0 HMB0
        obtain ⟨_, _, va, fa0, fa1, fa2⟩ := cells3 HKA3.out
        obtain ⟨_, _, vb, fb0, fb1, fb2⟩ := cells3 HKB3.out
        have za := (Array.getElem?_eq_some_iff.1 HKA3.out).1
        have zb := (Array.getElem?_eq_some_iff.1 HKB3.out).1
        go_wp2_with fail
        have HCL : Hid (∀ W, Bel w3 W → Calls Try.prog 35 #[.slice A n k] W fun e w' => ∃ A' c', e = .returned (.slice A' n c') ∧ w'.ownsRow w3.heap.size 3 1 (.slice A' n c') n (la.map (Value.int .i64)) ∧ Bel W w') := Lib.hid fun W hW => by
          refine (clone_any A n k la W (HA.out.bel (HB3.out.on hW)) (by omega)).mono ?_
          rintro e w' ⟨A', c', rfl, ho, hb⟩
          exact ⟨A', c', rfl, ho.mono hW.size, hb⟩
        go_region_held3 (fun w' => w'.cell? ⟨w.heap.size, 2, none⟩ = some (.slice A n k) ∧ w'.cell? ⟨w.heap.size + 1, 2, none⟩ = some (.slice B m j)) (go_keep)
          (first | (go_at_call 35; refine (HCL.out _ (by first | exact Bel.refl _ | exact (Bel.refl _).drew)).mono ?_; rintro e w4 ⟨A4, c4, rfl, hown4, hb4⟩; (have HB4 : Hid (Bel w3 w4) := Lib.hid (show Bel w3 w4 by first | exact hb4 | exact (Bel.refl _).drew.on hb4)); (have HO4 := Lib.hid hown4); (have va4 := (HB4.out.cell (p := ⟨w.heap.size, 2, none⟩) za).trans va); (have vb4 := (HB4.out.cell (p := ⟨w.heap.size + 1, 2, none⟩) zb).trans vb); clear hown4 hb4) | (refine step_append_ri rfl (.tmp 33) (.tmp 35) 31 rfl w3.heap.size 3 Try.underlying31 info_int A4 n c4 la (by simp [Act.eval]) (by exact HO4.out) B m j lb (by simp [Act.eval]) (by exact HB.out.bel (HB3.out.on HB4.out)) (by omega) (by exact HB4.out.size) ?_; intro A5 c5 w5 hown5 hg5; (have HB5 : Hid (Bel w3 w5) := Lib.hid (Below.grown HB4.out hg5 (by exact HB4.out.size) (fun g hg => (HO4.out.lt g hg).1))); (have HO5 := Lib.hid hown5); (have va5 := (HB5.out.cell (p := ⟨w.heap.size, 2, none⟩) za).trans va); (have vb5 := (HB5.out.cell (p := ⟨w.heap.size + 1, 2, none⟩) zb).trans vb); clear hown5 hg5))
        all_goals
          have HR5 := Lib.hid (RI.of_own HO5.out)
          have HKA5 := Lib.hid (HB5.out.blk HKA3.out)
          have HKB5 := Lib.hid (HB5.out.blk HKB3.out)
          have HB5w := Lib.hid (HB3.out.on HB5.out)
          clear va vb fa0 fa1 fa2 fb0 fb1 fb2 za zb HCL HO4 HB4 va4 vb4 va5 vb5 HO5 HB5 HKA3 HKB3
          go_wp2_with fail
          obtain ⟨lv, hlv⟩ : ∃ lv, lv = la ++ lb := ⟨_, rfl⟩
          have HLV := Lib.hid hlv
          rw [← hlv] at HR5
          clear hlv
          have hvb : Hid (∀ v ∈ lv, 0 ≤ v ∧ v < 1048576) := Lib.hid (fun v hv => by
            rw [HLV.out] at hv
            rcases List.mem_append.1 hv with hv | hv
            · have h := ((mayVars_spec la).1 (mayB_vars HYA.out)).1 v hv
              unfold isVarB at h; simpa using h
            · have h := ((mayVars_spec lb).1 (mayB_vars HYB.out)).1 v hv
              unfold isVarB at h; simpa using h)
          have HNV := Lib.hid HR5.out.len
          go_loop [5, 38] (fun x i => ∃ q : Nat, q ≤ n + m ∧ i = .int .i64 q ∧ x = .int .i64 (maxN (lv.take q))) (fun _ i => (n + m) - (intOf i).toNat)
          case atStart => exact ⟨0, Nat.zero_le _, rfl, rfl⟩
          case round =>
            obtain ⟨q, hq, rfl, rfl⟩ := hrel
            by_cases hlt : q < n + m
            · obtain ⟨b, off, rfl, hb, hc⟩ := HR5.out.at_ (by omega)
              have hcell := hc q hlt
              obtain ⟨v, hv⟩ : ∃ v, lv[q]? = some v := ⟨_, List.getElem?_eq_getElem (by rw [← HNV.out]; exact hlt)⟩
              rw [hv] at hcell
              simp only [Option.getD_some] at hcell
              obtain ⟨v0, v1⟩ := hvb.out v (List.mem_of_getElem? hv)
              have HK := Lib.hid hv
              have hbd := maxN_bd (lv.take q) (fun x hx => (hvb.out x (List.mem_of_mem_take hx)).2)
              obtain ⟨mx, hmx⟩ : ∃ mx, mx = maxN (lv.take q) := ⟨_, rfl⟩
              rw [← hmx] at hbd ⊢
              have HMX := Lib.hid hmx
              obtain ⟨d0, d1, _⟩ := hbd
              clear hc hv hmx
              go_wp2_with fail
              go_round
              case rel => exact ⟨q + 1, by omega, by go_num, by rw [take_snoc_ HK.out, maxN_snoc, ← HMX.out]⟩
              case measure => simp [intOf]; omega
            · obtain rfl : q = n + m := by omega
              have e : lv.take (n + m) = lv := by rw [HNV.out]; exact List.take_length
              rw [e]
              obtain ⟨d0, d1, d2⟩ := maxN_bd lv (fun x hx => (hvb.out x hx).2)
              obtain ⟨N, hN⟩ : ∃ N : Nat, maxN lv = N := ⟨(maxN lv).toNat, by omega⟩
              rw [hN] at d0 d1 d2 ⊢
              have HD2 := Lib.hid d2
              clear d2 e hN hlt
              have hmk := fun W => run_make_row' (P := Try.prog) 41 30 (.int .u8 0) 1 Try.underlying41 info_u8 rfl .i64 .i64 N (by omega) (by omega) W
              go_wp2_with fail
              have HAR0 := Lib.hid (show Arr .u8 ((w5.alloc (.cells (madeCells #[.int .u8 0] N) 30)).alloc (.cells #[.slice (some ⟨w5.heap.size, 0, none⟩) N N] 41)) w5.heap.size 30 (List.replicate N 0) from (Arr.made w5 _ N 0).bel ((Bel.refl _).alloc _))
              have HBX0 := Lib.hid (blk2 w5 (.cells (madeCells #[.int .u8 0] N) 30) (.cells #[.slice (some ⟨w5.heap.size, 0, none⟩) N N] 41)).2
              have HB60 : Hid (Bel w5 ((w5.alloc (.cells (madeCells #[.int .u8 0] N) 30)).alloc (.cells #[.slice (some ⟨w5.heap.size, 0, none⟩) N N] 41))) := Lib.hid (((Bel.refl _).alloc _).alloc _)
              clear hmk
              obtain ⟨w6, hw6⟩ : ∃ w6, w6 = (w5.alloc (.cells (madeCells #[.int .u8 0] N) 30)).alloc (.cells #[.slice (some ⟨w5.heap.size, 0, none⟩) N N] 41) := ⟨_, rfl⟩
              rw [← hw6] at HAR0 HBX0 HB60 ⊢
              clear hw6
              go_loopw [51] (fun i wr => ∃ q : Nat, q ≤ N ∧ i = .int .i64 q ∧ Hid (Arr .u8 wr w5.heap.size 30 (List.replicate q 1 ++ List.replicate (N - q) 0)) ∧ Hid (wr.heap[w5.heap.size + 1]? = some (.cells #[.slice (some ⟨w5.heap.size, 0, none⟩) N N] 41 (0, 0))) ∧ Hid (Bel w5 wr)) (fun i _ => N - (intOf i).toNat)
              case atStart => exact ⟨0, Nat.zero_le _, rfl, Lib.hid (by simpa using HAR0.out), HBX0, HB60⟩
              case round =>
                obtain ⟨q, hq, rfl, HAR, HBX, HBW⟩ := hrel
                by_cases hlt : q < N
                · have hcell := HAR.out.cell (j := q) (by simp; omega)
                  have hfr := HAR.out.frozen q
                  obtain ⟨x0, _⟩ := blk_one HBX.out
                  have i1 : (q : Int) < (N : Int) := by omega
                  have i2 : (0 : Int) ≤ (q : Int) := by omega
                  go_wp2_with fail
                  go_roundw
                  case rel => exact ⟨q + 1, by omega, by go_num, Lib.hid (by
                    have h := HAR.out.set_ q 1
                    have e : (List.replicate q 1 ++ List.replicate (N - q) 0 : List Int).set q 1 = List.replicate (q + 1) 1 ++ List.replicate (N - (q + 1)) 0 := by
                      rw [List.set_append_right _ _ (by simp), List.length_replicate, Nat.sub_self, show N - q = (N - (q + 1)) + 1 by omega, List.replicate_succ, List.set_cons_zero, List.replicate_succ']
                      simp
                    rw [e] at h; exact h), Lib.hid (blk_off HBX.out (by simp) _), Lib.hid (HBW.out.set_ (Nat.le_refl _) _)⟩
                  case measure => simp [intOf]; omega
                · obtain rfl : q = N := by omega
                  have e : (List.replicate q 1 ++ List.replicate (q - q) 0 : List Int) = onesL q := by simp [onesL]
                  rw [e] at HAR
                  clear e hlt hq HAR0 HBX0 HB60
                  have HAL : Hid (∀ W av, Bel w5 W → Arr .u8 W w5.heap.size 30 av → av.length = q → W.heap[w5.heap.size + 1]? = some (.cells #[.slice (some ⟨w5.heap.size, 0, none⟩) q q] 41 (0, 0)) → Calls Try.prog 36 #[.pointer (some ⟨w.heap.size, 0, none⟩), .pointer (some ⟨w5.heap.size + 1, 0, none⟩), .pointer (some ⟨w.heap.size + 1, 0, none⟩)] W fun e w' => e = .returned (.bool (alikeB na ca la nb cb lb av)) ∧ Bel W w') := Lib.hid fun W av hW ha hl hx =>
                    apart1_any w.heap.size (w5.heap.size + 1) (w.heap.size + 1) na ca A n k la nb cb B m j lb (some ⟨w5.heap.size, 0, none⟩) q q av W (hW.blk HKA5.out) hx (hW.blk HKB5.out) (HA.out.bel (HB5w.out.on hW)) (HB.out.bel (HB5w.out.on hW)) (ha.ri hl.symm) (by omega) (by omega) (by omega)
                  go_wp2_with fail
                  refine (HAL.out _ _ HBW.out HAR.out (ones_len q) HBX.out).mono ?_
                  rintro e w7 ⟨rfl, hb⟩
                  have HAR7 := Lib.hid (HAR.out.bel hb)
                  have HBX7 := Lib.hid (hb.blk HBX.out)
                  have HBW7 := Lib.hid (HBW.out.on hb)
                  clear hb HAR HBX HBW
                  obtain ⟨al0, hal0⟩ : ∃ b, b = alikeB na ca la nb cb lb (onesL q) := ⟨_, rfl⟩
                  have HAL0 := Lib.hid hal0
                  rw [← hal0]
                  clear hal0
                  obtain ⟨a0, a1, a2, _, _, _⟩ := cells3 (HBW7.out.blk HKA5.out)
                  obtain ⟨b0, b1, b2, _, _, _⟩ := cells3 (HBW7.out.blk HKB5.out)
                  go_wp2_with fail
                  clear a0 a1 a2 b0 b1 b2
                  have HAR8 := Lib.hid (HAR7.out.bel ((Bel.refl w7).alloc (.cells #[.bool na, .int .u8 ca, .slice A n k, .bool nb, .int .u8 cb, .slice B m j] 33)))
                  have HBX8 := Lib.hid (((Bel.refl w7).alloc (.cells #[.bool na, .int .u8 ca, .slice A n k, .bool nb, .int .u8 cb, .slice B m j] 33)).blk HBX7.out)
                  have HBW8 := Lib.hid (HBW7.out.alloc (.cells #[.bool na, .int .u8 ca, .slice A n k, .bool nb, .int .u8 cb, .slice B m j] 33))
                  have HTS8 := Lib.hid (blk1 w7 (.cells #[.bool na, .int .u8 ca, .slice A n k, .bool nb, .int .u8 cb, .slice B m j] 33))
                  have hgt : w5.heap.size + 1 < w7.heap.size := (Array.getElem?_eq_some_iff.1 HBX7.out).1
                  obtain ⟨w8, hw8⟩ : ∃ w8, w8 = w7.alloc (.cells #[.bool na, .int .u8 ca, .slice A n k, .bool nb, .int .u8 cb, .slice B m j] 33) := ⟨_, rfl⟩
                  rw [← hw8] at HAR8 HBX8 HBW8 HTS8 ⊢
                  clear hw8
                  obtain ⟨gt, hgte⟩ : ∃ gt, gt = w7.heap.size := ⟨_, rfl⟩
                  rw [← hgte] at HTS8 hgt ⊢
                  clear hgte HAR7 HBX7 HBW7
                  obtain ⟨ts, hts⟩ : ∃ ts : List Tm, ts = [⟨⟨na, ca, A, n, k⟩, la⟩, ⟨⟨nb, cb, B, m, j⟩, lb⟩] := ⟨_, rfl⟩
                  have HTS := Lib.hid hts
                  have HTL : Hid (ts.length = 2 ∧ varsT ts = lv ∧ Lies w ts ∧ ∀ t ∈ ts, t.r.n ≤ 5000) := Lib.hid (by
                    rw [hts, HLV.out]
                    refine ⟨rfl, by simp [varsT], fun t ht => ?_, fun t ht => ?_⟩
                    · rcases List.mem_cons.1 ht with rfl | ht
                      · exact HA.out
                      · rw [List.mem_singleton] at ht; subst ht; exact HB.out
                    · rcases List.mem_cons.1 ht with rfl | ht
                      · exact s1
                      · rw [List.mem_singleton] at ht; subst ht; exact s2)
                  have HRT : Hid (∀ (W : World), W.heap[gt]? = some (.cells #[.bool na, .int .u8 ca, .slice A n k, .bool nb, .int .u8 cb, .slice B m j] 33 (0, 0)) → ∀ (p : Nat) (t : Tm), ts[p]? = some t → W.cell? ⟨gt, p * 3, none⟩ = some (.bool t.r.nv) ∧ W.cell? ⟨gt, p * 3 + 1, none⟩ = some (.int .u8 t.r.c) ∧ W.cell? ⟨gt, p * 3 + 2, none⟩ = some (.slice t.r.A t.r.n t.r.k)) := Lib.hid fun W hW p t ht => by
                    rw [hts] at ht
                    match p, ht with
                    | 0, ht => simp at ht; subst ht; simp [World.cell?, hW]
                    | 1, ht => simp at ht; subst ht; simp [World.cell?, hW]
                  clear hts
                  go_loopw [11, 65] (fun x i wr => ∃ p : Nat, p ≤ 2 ∧ i = .int .i64 p ∧ x = .bool (al0 && (varsT (ts.take p)).all fun v => alikeB na ca la nb cb lb (spikeL q v)) ∧ Hid (Arr .u8 wr w5.heap.size 30 (onesL q)) ∧ Hid (wr.heap[w5.heap.size + 1]? = some (.cells #[.slice (some ⟨w5.heap.size, 0, none⟩) q q] 41 (0, 0))) ∧ Hid (Bel w5 wr) ∧ Hid (wr.heap[gt]? = some (.cells #[.bool na, .int .u8 ca, .slice A n k, .bool nb, .int .u8 cb, .slice B m j] 33 (0, 0)))) (fun _ i _ => 2 - (intOf i).toNat)
                  case atStart => exact ⟨0, by omega, rfl, by simp [varsT], HAR8, HBX8, HBW8, HTS8⟩
                  case round =>
                    obtain ⟨p, hp, rfl, rfl, HAR, HBX, HBW, HTG⟩ := hrel
                    by_cases hlt : p < 2
                    · obtain ⟨t, htk⟩ : ∃ t, ts[p]? = some t := ⟨_, List.getElem?_eq_getElem (by rw [HTL.out.1]; exact hlt)⟩
                      obtain ⟨c0, c1, c2⟩ := HRT.out wr HTG.out p t htk
                      have HK := Lib.hid htk
                      have i1 : (p : Int) < 2 := by omega
                      have i2 : (0 : Int) ≤ (p : Int) := by omega
                      have HRI := Lib.hid (HTL.out.2.2.1 t (List.mem_of_getElem? htk))
                      have HLE := Lib.hid (HTL.out.2.2.2 t (List.mem_of_getElem? htk))
                      have HIN : Hid (∀ v ∈ t.l, v ∈ lv) := Lib.hid fun v hv => by
                        rw [← HTL.out.2.1]
                        exact List.mem_flatMap.2 ⟨t, List.mem_of_getElem? htk, hv⟩
                      clear htk
                      go_wp2_with fail
                      have HAR1 := Lib.hid (HAR.out.bel ((Bel.refl wr).alloc (.cells #[.bool t.r.nv, .int .u8 t.r.c, .slice t.r.A t.r.n t.r.k] 33)))
                      have HBX1 := Lib.hid (((Bel.refl wr).alloc (.cells #[.bool t.r.nv, .int .u8 t.r.c, .slice t.r.A t.r.n t.r.k] 33)).blk HBX.out)
                      have HBW1 := Lib.hid (HBW.out.alloc (.cells #[.bool t.r.nv, .int .u8 t.r.c, .slice t.r.A t.r.n t.r.k] 33))
                      have HTG1 := Lib.hid (((Bel.refl wr).alloc (.cells #[.bool t.r.nv, .int .u8 t.r.c, .slice t.r.A t.r.n t.r.k] 33)).blk HTG.out)
                      obtain ⟨wq, hwq⟩ : ∃ wq, wq = wr.alloc (.cells #[.bool t.r.nv, .int .u8 t.r.c, .slice t.r.A t.r.n t.r.k] 33) := ⟨_, rfl⟩
                      rw [← hwq] at HAR1 HBX1 HBW1 HTG1 ⊢
                      obtain ⟨g13, hg13⟩ : ∃ g, g = wr.heap.size := ⟨_, rfl⟩
                      rw [← hg13]
                      clear hwq hg13 c0 c1 c2 HAR HBX HBW HTG
                      obtain ⟨sf, hsf⟩ : ∃ b, b = (al0 && (varsT (ts.take p)).all fun v => alikeB na ca la nb cb lb (spikeL q v)) := ⟨_, rfl⟩
                      have HSF := Lib.hid hsf
                      rw [← hsf]
                      clear hsf
                      go_loopw [11, 72] (fun x i wr => ∃ r : Nat, r ≤ t.r.n ∧ i = .int .i64 r ∧ x = .bool (sf && (t.l.take r).all fun v => alikeB na ca la nb cb lb (spikeL q v)) ∧ Hid (Arr .u8 wr w5.heap.size 30 (onesL q)) ∧ Hid (wr.heap[w5.heap.size + 1]? = some (.cells #[.slice (some ⟨w5.heap.size, 0, none⟩) q q] 41 (0, 0))) ∧ Hid (Bel w5 wr) ∧ Hid (wr.heap[gt]? = some (.cells #[.bool na, .int .u8 ca, .slice A n k, .bool nb, .int .u8 cb, .slice B m j] 33 (0, 0)))) (fun _ i _ => t.r.n - (intOf i).toNat)
                      case atStart => exact ⟨0, Nat.zero_le _, rfl, by simp, HAR1, HBX1, HBW1, HTG1⟩
                      case round =>
                        obtain ⟨r, hr, rfl, rfl, HAR, HBX, HBW, HTG⟩ := hrel
                        by_cases hlt2 : r < t.r.n
                        · obtain ⟨b, off, eA, hb, hc⟩ := ((HRI.out.bel HB5w.out).bel HBW.out).at_ (by omega)
                          have hcell := hc r hlt2
                          obtain ⟨v, hv⟩ : ∃ v, t.l[r]? = some v := ⟨_, List.getElem?_eq_getElem (by rw [← HRI.out.len]; exact hlt2)⟩
                          rw [hv] at hcell
                          simp only [Option.getD_some] at hcell
                          have hvl := HIN.out v (List.mem_of_getElem? hv)
                          have v0 := (hvb.out v hvl).1
                          have v1 := HD2.out v hvl
                          have HKV := Lib.hid hv
                          clear hc hv hvl
                          rw [eA]
                          have hcellv := HAR.out.cell (j := v.toNat) (by rw [ones_len]; omega)
                          have hfrv := HAR.out.frozen v.toNat
                          obtain ⟨x0, _⟩ := blk_one HBX.out
                          have i3 : (r : Int) < (t.r.n : Int) := by omega
                          have i4 : (0 : Int) ≤ (r : Int) := by omega
                          have hle := HLE.out
                          go_wp2_with fail
                          have HARs := Lib.hid (show Arr .u8 (wr.setCell ⟨w5.heap.size, v.toNat, none⟩ (.int .u8 3)) w5.heap.size 30 (spikeL q v) from HAR.out.set_ v.toNat 3)
                          have HBXs := Lib.hid (blk_off HBX.out (p := ⟨w5.heap.size, v.toNat, none⟩) (by simp) (.int .u8 3))
                          have HTGs := Lib.hid (blk_off HTG.out (p := ⟨w5.heap.size, v.toNat, none⟩) (by simp; omega) (.int .u8 3))
                          have HBWs := Lib.hid (HBW.out.set_ (p := ⟨w5.heap.size, v.toNat, none⟩) (Nat.le_refl _) (.int .u8 3))
                          refine (HAL.out _ _ HBWs.out HARs.out (spike_len q v) HBXs.out).mono ?_
                          obtain ⟨ab, hab⟩ : ∃ b, b = alikeB na ca la nb cb lb (spikeL q v) := ⟨_, rfl⟩
                          have HAB := Lib.hid hab
                          rw [← hab]
                          clear hab x0 hcell hcellv hfrv
                          rintro e w10 ⟨rfl, hb10⟩
                          have HARt := Lib.hid (HARs.out.bel hb10)
                          have HBXt := Lib.hid (hb10.blk HBXs.out)
                          have HTGt := Lib.hid (hb10.blk HTGs.out)
                          have HBWt := Lib.hid (HBWs.out.on hb10)
                          clear hb10 HARs HBXs HTGs HBWs HAR HBX HTG HBW
                          have hcellv := HARt.out.cell (j := v.toNat) (by rw [spike_len]; omega)
                          have hfrv := HARt.out.frozen v.toNat
                          obtain ⟨x0, _⟩ := blk_one HBXt.out
                          cases ab
                          all_goals
                            go_wp2_with fail
                            go_roundw
                            case rel => exact ⟨r + 1, by omega, by go_num, by rw [take_snoc_ HKV.out, List.all_append]; simp [← HAB.out], Lib.hid (by
                              have h := HARt.out.set_ v.toNat 1
                              have e : (spikeL q v).set v.toNat 1 = onesL q := by
                                unfold spikeL onesL
                                rw [List.set_set]
                                apply List.ext_getElem
                                · simp
                                · intro i h1 h2
                                  rw [List.getElem_set]
                                  split <;> simp
                              rw [e] at h; exact h), Lib.hid (blk_off HBXt.out (by simp) _), Lib.hid (HBWt.out.set_ (Nat.le_refl _) _), Lib.hid (blk_off HTGt.out (by simp; omega) _)⟩
                            case measure => simp [intOf]; omega
                        · obtain rfl : r = t.r.n := by omega
                          have e : t.l.take t.r.n = t.l := by rw [HRI.out.len]; exact List.take_length
                          rw [e]
                          clear e hlt2
                          go_wp2_with fail
                          go_roundw
                          case rel => exact ⟨p + 1, by omega, by go_num, by rw [take_snoc_ HK.out, HSF.out]; simp [varsT, Bool.and_assoc], HAR, HBX, HBW, HTG⟩
                          case measure => simp [intOf]; omega
                    · obtain rfl : p = 2 := by omega
                      have e : ts.take 2 = ts := by rw [← HTL.out.1]; exact List.take_length
                      have E2 : (al0 && (varsT (ts.take 2)).all fun v => alikeB na ca la nb cb lb (spikeL q v)) = (decide (na = nb) && decide (ca = cb) && decide (la = lb)) := by
                        rw [e, HTL.out.2.1, HAL0.out, HLV.out]
                        exact apart_iff HYA.out HYB.out (by rw [← HLV.out]; exact HD2.out)
                      rw [E2]
                      have HSM : Hid (∀ W, Bel w W → Calls Try.prog 37 #[.agg #[.bool na, .int .u8 ca, .slice A n k], .agg #[.bool nb, .int .u8 cb, .slice B m j]] W fun e w' => e = .returned (.bool (decide (na = nb) && decide (ca = cb) && decide (la = lb))) ∧ Bel W w') := Lib.hid fun W hW => same_any na nb ca cb A B n m k j la lb W (HA.out.bel hW) (HB.out.bel hW) (by omega) (by omega)
                      obtain ⟨sm, hsm⟩ : ∃ b, b = (decide (na = nb) && decide (ca = cb) && decide (la = lb)) := ⟨_, rfl⟩
                      rw [← hsm] at HSM ⊢
                      clear hsm e E2 hlt
                      obtain ⟨a0, a1, a2, _, _, _⟩ := cells3 (HBW.out.blk HKA5.out)
                      obtain ⟨b0, b1, b2, _, _, _⟩ := cells3 (HBW.out.blk HKB5.out)
                      have hsm2 : (sm == sm) = true := by simp
                      go_wp2_with fail
                      refine (HSM.out _ (HB5w.out.on HBW.out)).mono ?_
                      clear a0 a1 a2 b0 b1 b2
                      rintro e w11 ⟨rfl, hb⟩
                      have HB11 := Lib.hid ((HB5w.out.on HBW.out).on hb)
                      clear hb
                      go_wp2_with fail
                      refine (HWk.out _).mono ?_
                      rintro e w12 ⟨rfl, hb⟩
                      have HB12 := Lib.hid (HB11.out.on hb)
                      clear hb
                      go_wp2_with fail
                      go_ret
                      exact ⟨rfl, HB12.out⟩
end Go.Proofs.Ytghoipgldnfjoaa.Mu
