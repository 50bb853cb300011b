/-
  A solver in memory; handOn.
  begin.
  What raise comes to, as a function: of lists alone.
  raise.
  core.
-/
import Derived.Test.YtlbachjhhjjmfaaSolvers
import Derived.Test.YtlbachjhhjjmfaaComm
import Derived.Test.YtlbachjhhjjmfaaLib
import Derived.Test.YtlbachjhhjjmfaaOne
namespace Go.Proofs.Ytlbachjhhjjmfaa.Mu
set_option linter.unusedSimpArgs false
open Go.ChangeShapes Go.WideShapes Go.ChangeAt Go.RowKit Go.Shelf

attribute [local go_sem] Oper.semAt_some

/-- Where a solver lies. -/
structure BkH where
  base : Nat
  s : Nat
  gf : Nat
  gn : Nat
  ga : Nat
  gb : Nat
  gc : Nat
  A : Option Addr
  len : Nat
  cap : Nat
  n : Nat
/-- What a channel of integers holds. -/
def encZ (Q : List Int) : Array Value := (Q.map (Value.int .i64)).toArray
theorem encZ_push (Q : List Int) (v : Int) : (encZ Q).push (.int .i64 v) = encZ (Q ++ [v]) := by simp [encZ]
theorem encZ_head (v : Int) (Q : List Int) : (encZ (v :: Q)).getD 0 undef = .int .i64 v := rfl
theorem encZ_tail (v : Int) (Q : List Int) : (encZ (v :: Q)).extract 1 (encZ (v :: Q)).size = encZ Q := by
  apply Array.ext'
  simp [encZ]
  exact List.take_of_length_le (by simp)
theorem encZ_size (Q : List Int) : (encZ Q).size = Q.length := by simp [encZ]
/-- A solver, as it lies in memory. -/
structure St (w : World) (k : BkH) (xs : List Iq) (F N G B Q : List Int) : Prop where
  d : Dist k.base k.s k.gf k.gn k.ga k.gb k.gc
  sol : Sol w k.s k.gf k.gn k.ga k.gb k.gc k.A k.len k.cap k.n F N G B
  ch : ∃ sq rq, w.heap[k.gc]? = some (.chan k.n (encZ Q) false sq rq false)
  q : RQ w k.base k.A k.len xs
  lf : F.length = k.n
  ln : N.length = k.len
  lg : G.length = k.n
  lb : B.length = k.n
theorem setChan_far (w : World) {c c' : Nat} (cap : Nat) (buf : Array Value) (cl : Bool) (s r : Nat) (tm : Bool) (h : c ≠ c') : (w.setChan c cap buf cl s r tm).heap[c']? = w.heap[c']? := by
  simp [World.setChan, Array.getElem?_setIfInBounds_ne h]
section
variable {w w' : World} {k : BkH} {xs : List Iq} {F N G B Q : List Int}
theorem St.sz (h : St w k xs F N G B Q) : k.base ≤ w.heap.size := Nat.le_trans h.d.1.1 (Nat.le_of_lt (blk_lt h.sol.hs))
theorem St.bel (h : St w k xs F N G B Q) (hb : Bel w w') : St w' k xs F N G B Q :=
  ⟨h.d, ⟨hb.blk h.sol.hs, h.sol.hf.bel hb, h.sol.hn.bel hb, h.sol.ha.bel hb, h.sol.hb.bel hb⟩, let ⟨a, b, e⟩ := h.ch; ⟨a, b, hb.blk e⟩, h.q.keep fun b o hlt => hb.cell (p := ⟨b, o, none⟩) (show b < w.heap.size from Nat.lt_of_lt_of_le hlt h.sz), h.lf, h.ln, h.lg, h.lb⟩
theorem St.drew (h : St w k xs F N G B Q) : St w.drew k xs F N G B Q := ⟨h.d, ⟨h.sol.hs, h.sol.hf, h.sol.hn, h.sol.ha, h.sol.hb⟩, h.ch, h.q, h.lf, h.ln, h.lg, h.lb⟩
theorem St.setB (h : St w k xs F N G B Q) (j : Nat) (x : Int) : St (w.setCell ⟨k.gb, j, none⟩ (.int .i64 x)) k xs F N G (B.set j x) Q := by
  obtain ⟨⟨l1, l2, l3, l4, l5, l6⟩, ⟨d1, d2, d3, d4, d5⟩, ⟨d6, d7, d8, d9⟩, ⟨d10, d11, d12⟩, ⟨d13, d14⟩, d15⟩ := h.d
  refine ⟨h.d, ⟨blk_off h.sol.hs (fun e => d4 e.symm) _, h.sol.hf.off (fun e => d8 e.symm) _, h.sol.hn.off (fun e => d11 e.symm) _, h.sol.ha.off (fun e => d13 e.symm) _, h.sol.hb.set_ _ _⟩, ?_, h.q.keep fun b o hlt => ?_, h.lf, h.ln, h.lg, by simp [h.lb]⟩
  · obtain ⟨a, b, e⟩ := h.ch
    exact ⟨a, b, blk_off e d15 _⟩
  · exact World.cell?_setCell_far _ _ _ _ (fun e => by dsimp only at e; omega)
theorem St.setG (h : St w k xs F N G B Q) (j : Nat) (x : Int) : St (w.setCell ⟨k.ga, j, none⟩ (.int .u8 x)) k xs F N (G.set j x) B Q := by
  obtain ⟨⟨l1, l2, l3, l4, l5, l6⟩, ⟨d1, d2, d3, d4, d5⟩, ⟨d6, d7, d8, d9⟩, ⟨d10, d11, d12⟩, ⟨d13, d14⟩, d15⟩ := h.d
  refine ⟨h.d, ⟨blk_off h.sol.hs (fun e => d3 e.symm) _, h.sol.hf.off (fun e => d7 e.symm) _, h.sol.hn.off (fun e => d10 e.symm) _, h.sol.ha.set_ _ _, h.sol.hb.off d13 _⟩, ?_, h.q.keep fun b o hlt => ?_, h.lf, h.ln, by simp [h.lg], h.lb⟩
  · obtain ⟨a, b, e⟩ := h.ch
    exact ⟨a, b, blk_off e d14 _⟩
  · exact World.cell?_setCell_far _ _ _ _ (fun e => by dsimp only at e; omega)
theorem St.chan (h : St w k xs F N G B Q) (Q' : List Int) (a b : Nat) : St (w.setChan k.gc k.n (encZ Q') false a b false) k xs F N G B Q' := by
  obtain ⟨⟨l1, l2, l3, l4, l5, l6⟩, ⟨d1, d2, d3, d4, d5⟩, ⟨d6, d7, d8, d9⟩, ⟨d10, d11, d12⟩, ⟨d13, d14⟩, d15⟩ := h.d
  obtain ⟨s0, r0, e0⟩ := h.ch
  have far : ∀ g o, w.heap[g]? = some o → k.gc ≠ g → (w.setChan k.gc k.n (encZ Q') false a b false).heap[g]? = some o := fun g o ho hne => (setChan_far _ _ _ _ _ _ _ hne).trans ho
  refine ⟨h.d, ⟨far _ _ h.sol.hs (fun e => d5 e.symm), far _ _ h.sol.hf (fun e => d9 e.symm), far _ _ h.sol.hn (fun e => d12 e.symm), far _ _ h.sol.ha (fun e => d14 e.symm), far _ _ h.sol.hb (fun e => d15 e.symm)⟩, ⟨a, b, Conc.heap_setChan _ _ _ _ _ _ _ _ (blk_lt e0)⟩, h.q.keep fun x o hlt => ?_, h.lf, h.ln, h.lg, h.lb⟩
  have := setChan_far w k.n (encZ Q') false a b false (c := k.gc) (c' := x) (by omega)
  simp only [World.cell?, this]
end

/-- What handOn answers, and what it leaves. -/
def handF (B Q : List Int) (x : Iq) (m : Int) (i : Nat) : Bool × List Int × List Int :=
  if m ≤ x.c then (true, B, Q) else if x.r = -1 then (false, B, Q) else if B[x.r.toNat]?.getD 0 = -1 then (true, B.set x.r.toNat i, Q ++ [x.r]) else (true, B, Q)
def HandPost (k : BkH) (xs : List Iq) (F N G B Q : List Int) (x : Iq) (m : Int) (i : Nat) (w : World) (e : Ending) (w' : World) : Prop :=
  e = .returned (.bool (handF B Q x m i).1) ∧ St w' k xs F N G (handF B Q x m i).2.1 (handF B Q x m i).2.2 ∧ Below k.base w w'

set_option maxRecDepth 100000 in
set_option maxHeartbeats 4000000 in
theorem handOn_any (k : BkH) (xs : List Iq) (F N G B Q : List Int) (i : Nat) (m : Int) (x : Iq) (hx : xs[i]? = some x) (hl : k.len ≤ 1048576) (hn : k.n ≤ 1048576) (hr : x.r = -1 ∨ 0 ≤ x.r ∧ x.r < k.n) (hroom : B[x.r.toNat]?.getD 0 = -1 → Q.length < k.n) (w : World) (h : St w k xs F N G B Q) :
    Calls Try.prog 72 #[.pointer (some ⟨k.s, 0, none⟩), .int .i64 i, .int .u8 m] w (HandPost k xs F N G B Q x m i w) := by
  have HB0 : Hid (Below k.base w w) := Lib.hid (Below.refl _ _)
  have HS := Lib.hid h
  have HLN := Lib.hid h.q.len
  have hi : i < k.len := by
    have := (List.getElem?_eq_some_iff.1 hx).1
    have := h.q.len
    omega
  have HI := Lib.hid hi
  obtain ⟨qb, qo, eA, qlt, qc⟩ := h.q.at_ (by omega)
  obtain ⟨c0, c1, c2, c3⟩ := qc i x hx
  have q0 : w.cell? ⟨k.s, 0, none⟩ = some (.slice (some ⟨qb, qo, none⟩) k.len k.cap) := by rw [← eA]; simp [World.cell?, h.sol.hs, cellsS]
  have i1 : (0 : Int) ≤ (i : Int) := by omega
  have i2 : (i : Int) < (k.len : Int) := by omega
  have HW1 : Hid (St ((w.alloc (.cells #[.int .i64 x.v, .int .u8 x.m, .int .u8 x.c, .int .i64 x.r] 34))) k xs F N G B Q) := Lib.hid (h.bel ((Bel.refl w).alloc _))
  have HBW1 : Hid (Below k.base w (w.alloc (.cells #[.int .i64 x.v, .int .u8 x.m, .int .u8 x.c, .int .i64 x.r] 34))) := Lib.hid (Below.mono ((Bel.refl w).alloc _) h.sz)
  have HR := Lib.hid hr
  have HX := Lib.hid hx
  have HRO := Lib.hid hroom
  have HN := Lib.hid hn
  have HL := Lib.hid hl
  clear h hx hi qc hr hroom hn hl eA qlt
  unfold HandPost
  by_cases h1 : m ≤ x.c
  · have hF : handF B Q x m i = (true, B, Q) := by simp [handF, h1]
    rw [hF]
    clear hF
    go_enter Try.func72, Try.ntmps72
    go_wp2
    go_ret
    exact ⟨rfl, HW1.out, HBW1.out⟩
  · by_cases h2 : x.r = -1
    · have hF : handF B Q x m i = (false, B, Q) := by simp [handF, h1, h2]
      rw [hF]
      clear hF
      go_enter Try.func72, Try.ntmps72
      go_wp2
      go_ret
      have hw := HW1.out
      have hb := HBW1.out
      rw [h2] at hw hb
      exact ⟨rfl, hw, hb⟩
    · obtain ⟨r0, r1⟩ := HR.out.resolve_left h2
      have HXB := Lib.hid (blk1 w (.cells #[.int .i64 x.v, .int .u8 x.m, .int .u8 x.c, .int .i64 x.r] 34))
      have HGB : Hid (k.gb < w.heap.size) := Lib.hid HS.out.sol.hb.lt
      obtain ⟨w1, hw1⟩ : ∃ w1, w1 = w.alloc (.cells #[.int .i64 x.v, .int .u8 x.m, .int .u8 x.c, .int .i64 x.r] 34) := ⟨_, rfl⟩
      have HW := Lib.hid hw1
      rw [← hw1] at HW1 HBW1 HXB
      have qx := (cells4 HXB.out).2.2.2
      have q4 : w1.cell? ⟨k.s, 4, none⟩ = some (.slice (some ⟨k.gb, 0, none⟩) k.n k.n) := by simp [World.cell?, HW1.out.sol.hs, cellsS]
      have qB := HW1.out.sol.hb.cell (j := x.r.toNat) (by have := HW1.out.lb; omega)
      have qF := HW1.out.sol.hb.frozen x.r.toNat
      clear hw1
      by_cases h3 : B[x.r.toNat]?.getD 0 = -1
      · have hF : handF B Q x m i = (true, B.set x.r.toNat i, Q ++ [x.r]) := by simp [handF, h1, h2, h3]
        rw [hF]
        clear hF
        rw [h3] at qB
        have hne : w.heap.size ≠ k.gb := fun e => by have := HGB.out; omega
        have hs2 := (HW1.out.setB x.r.toNat i).drew.drew.drew
        obtain ⟨sq, rq, hch⟩ := hs2.ch
        have HS2 := Lib.hid hs2
        have HCH := Lib.hid hch
        have HRM : Hid ((encZ Q).size < k.n) := Lib.hid (by rw [encZ_size]; exact HRO.out h3)
        have HFIN : Hid (St ((w1.setCell ⟨k.gb, x.r.toNat, none⟩ (.int .i64 i)).drew.drew.drew.setChan k.gc k.n ((encZ Q).push (.int .i64 x.r)) false (sq + 1) rq false) k xs F N G (B.set x.r.toNat i) (Q ++ [x.r])) := Lib.hid (by rw [encZ_push]; exact hs2.chan _ _ _)
        have HBB : Hid (Below k.base w ((w1.setCell ⟨k.gb, x.r.toNat, none⟩ (.int .i64 i)).drew.drew.drew.setChan k.gc k.n ((encZ Q).push (.int .i64 x.r)) false (sq + 1) rq false)) := Lib.hid (by
          have hb := HBW1.out.setCell (p := ⟨k.gb, x.r.toNat, none⟩) HS2.out.d.1.2.2.2.2.1 (.int .i64 i)
          exact Conc.below_setChan (a := w) (w := (w1.setCell ⟨k.gb, x.r.toNat, none⟩ (.int .i64 i)).drew.drew.drew) ⟨hb.os, hb.tape, hb.output, hb.size, hb.block⟩ HS2.out.d.1.2.2.2.2.2 _ _ _ _ _ _)
        have r5 : (w1.setCell ⟨k.gb, x.r.toNat, none⟩ (.int .i64 i)).drew.drew.drew.cell? ⟨k.s, 5, none⟩ = some (.chan (some k.gc)) := by simp [World.cell?, HS2.out.sol.hs, cellsS]
        have rx : (w1.setCell ⟨k.gb, x.r.toNat, none⟩ (.int .i64 i)).drew.drew.drew.cell? ⟨w.heap.size, 3, none⟩ = some (.int .i64 x.r) := (World.cell?_setCell_far _ _ _ _ hne.symm).trans qx
        clear hs2 hch hne h3
        go_enter Try.func72, Try.ntmps72
        go_wp2_with fail
        rw [← HW.out]
        go_region
        go_wp2_with fail
        go_region
        go_wp2_with fail
        refine wp_region_anyR (by kernel_rfl) ?_
        change anyR _ _ _ _ _ _ _ (World.drew _)
        refine anyR_ready [0, 4] (by kernel_rfl) (by simp) ?_
        (refine AllR.cons (TakesR.pure (v := ?_) rfl rfl ?_ ?_) ?_; rotate_left; · (go_simp; all_goals with_reducible rfl))
        · (try simp only [Act.put, List.setIfInBounds_toArray, List.set_cons_zero, List.set_cons_succ])
          refine anyR_ready [1, 4] (by kernel_rfl) (by simp) ?_
          (refine AllR.cons (TakesR.pure (v := ?_) rfl rfl ?_ ?_) ?_; rotate_left; · (go_simp; all_goals with_reducible rfl))
          · (try simp only [Act.put, List.setIfInBounds_toArray, List.set_cons_zero, List.set_cons_succ])
            refine anyR_ready [2, 4] (by kernel_rfl) (by simp) ?_
            (refine AllR.cons (TakesR.pure (v := ?_) rfl rfl ?_ ?_) ?_; rotate_left; · (go_simp; all_goals with_reducible rfl))
            · (try simp only [Act.put, List.setIfInBounds_toArray, List.set_cons_zero, List.set_cons_succ])
              refine anyR_ready [3, 4] (by kernel_rfl) (by simp) ?_
              (refine AllR.cons (TakesR.pure (v := ?_) rfl rfl ?_ ?_) ?_; rotate_left; · (go_simp; all_goals with_reducible rfl))
              · (try simp only [Act.put, List.setIfInBounds_toArray, List.set_cons_zero, List.set_cons_succ])
                refine anyR_ready [4] (by kernel_rfl) (by simp) ?_
                (refine AllR.cons (TakesR.pure (v := ?_) rfl rfl ?_ ?_) ?_; rotate_left; · (go_simp; all_goals with_reducible rfl))
                · (try simp only [Act.put, List.setIfInBounds_toArray, List.set_cons_zero, List.set_cons_succ])
                  refine anyR_ready [5] (by kernel_rfl) (by simp) ?_
                  (refine AllR.cons (TakesR.pure (v := ?_) rfl rfl ?_ ?_) ?_; rotate_left; · (go_simp; all_goals with_reducible rfl))
                  · (try simp only [Act.put, List.setIfInBounds_toArray, List.set_cons_zero, List.set_cons_succ])
                    refine anyR_ready [6] (by kernel_rfl) (by simp) ?_
                    refine AllR.cons (TakesR.send (x := .tmp 42) (y := .tmp 44) (c := k.gc) (cap := k.n) (buf := encZ Q) (v := .int .i64 x.r) rfl rfl rfl (by go_simp) (by go_simp) HCH.out HRM.out ?_) AllR.nil
                    refine anyR_done (by kernel_rfl) ?_ _
                    ((try simp only [Act.put, List.setIfInBounds_toArray, List.set_cons_zero, List.set_cons_succ]); go_wp2; go_ret; exact ⟨rfl, HFIN.out, HBB.out⟩)
                  exact AllR.nil
                exact AllR.nil
              (refine AllR.cons (TakesR.pure (v := ?_) rfl rfl ?_ ?_) ?_; rotate_left; · (go_simp; all_goals with_reducible rfl))
              · (try simp only [Act.put, List.setIfInBounds_toArray, List.set_cons_zero, List.set_cons_succ])
                refine anyR_ready [3, 5] (by kernel_rfl) (by simp) ?_
                (refine AllR.cons (TakesR.pure (v := ?_) rfl rfl ?_ ?_) ?_; rotate_left; · (go_simp; all_goals with_reducible rfl))
                · (try simp only [Act.put, List.setIfInBounds_toArray, List.set_cons_zero, List.set_cons_succ])
                  refine anyR_ready [5] (by kernel_rfl) (by simp) ?_
                  (refine AllR.cons (TakesR.pure (v := ?_) rfl rfl ?_ ?_) ?_; rotate_left; · (go_simp; all_goals with_reducible rfl))
                  · (try simp only [Act.put, List.setIfInBounds_toArray, List.set_cons_zero, List.set_cons_succ])
                    refine anyR_ready [6] (by kernel_rfl) (by simp) ?_
                    refine AllR.cons (TakesR.send (x := .tmp 42) (y := .tmp 44) (c := k.gc) (cap := k.n) (buf := encZ Q) (v := .int .i64 x.r) rfl rfl rfl (by go_simp) (by go_simp) HCH.out HRM.out ?_) AllR.nil
                    refine anyR_done (by kernel_rfl) ?_ _
                    ((try simp only [Act.put, List.setIfInBounds_toArray, List.set_cons_zero, List.set_cons_succ]); go_wp2; go_ret; exact ⟨rfl, HFIN.out, HBB.out⟩)
                  exact AllR.nil
                (refine AllR.cons (TakesR.pure (v := ?_) rfl rfl ?_ ?_) ?_; rotate_left; · (go_simp; all_goals with_reducible rfl))
                · (try simp only [Act.put, List.setIfInBounds_toArray, List.set_cons_zero, List.set_cons_succ])
                  refine anyR_ready [3] (by kernel_rfl) (by simp) ?_
                  (refine AllR.cons (TakesR.pure (v := ?_) rfl rfl ?_ ?_) ?_; rotate_left; · (go_simp; all_goals with_reducible rfl))
                  · (try simp only [Act.put, List.setIfInBounds_toArray, List.set_cons_zero, List.set_cons_succ])
                    refine anyR_ready [6] (by kernel_rfl) (by simp) ?_
                    refine AllR.cons (TakesR.send (x := .tmp 42) (y := .tmp 44) (c := k.gc) (cap := k.n) (buf := encZ Q) (v := .int .i64 x.r) rfl rfl rfl (by go_simp) (by go_simp) HCH.out HRM.out ?_) AllR.nil
                    refine anyR_done (by kernel_rfl) ?_ _
                    ((try simp only [Act.put, List.setIfInBounds_toArray, List.set_cons_zero, List.set_cons_succ]); go_wp2; go_ret; exact ⟨rfl, HFIN.out, HBB.out⟩)
                  exact AllR.nil
                exact AllR.nil
              exact AllR.nil
            (refine AllR.cons (TakesR.pure (v := ?_) rfl rfl ?_ ?_) ?_; rotate_left; · (go_simp; all_goals with_reducible rfl))
            · (try simp only [Act.put, List.setIfInBounds_toArray, List.set_cons_zero, List.set_cons_succ])
              refine anyR_ready [2, 5] (by kernel_rfl) (by simp) ?_
              (refine AllR.cons (TakesR.pure (v := ?_) rfl rfl ?_ ?_) ?_; rotate_left; · (go_simp; all_goals with_reducible rfl))
              · (try simp only [Act.put, List.setIfInBounds_toArray, List.set_cons_zero, List.set_cons_succ])
                refine anyR_ready [3, 5] (by kernel_rfl) (by simp) ?_
                (refine AllR.cons (TakesR.pure (v := ?_) rfl rfl ?_ ?_) ?_; rotate_left; · (go_simp; all_goals with_reducible rfl))
                · (try simp only [Act.put, List.setIfInBounds_toArray, List.set_cons_zero, List.set_cons_succ])
                  refine anyR_ready [5] (by kernel_rfl) (by simp) ?_
                  (refine AllR.cons (TakesR.pure (v := ?_) rfl rfl ?_ ?_) ?_; rotate_left; · (go_simp; all_goals with_reducible rfl))
                  · (try simp only [Act.put, List.setIfInBounds_toArray, List.set_cons_zero, List.set_cons_succ])
                    refine anyR_ready [6] (by kernel_rfl) (by simp) ?_
                    refine AllR.cons (TakesR.send (x := .tmp 42) (y := .tmp 44) (c := k.gc) (cap := k.n) (buf := encZ Q) (v := .int .i64 x.r) rfl rfl rfl (by go_simp) (by go_simp) HCH.out HRM.out ?_) AllR.nil
                    refine anyR_done (by kernel_rfl) ?_ _
                    ((try simp only [Act.put, List.setIfInBounds_toArray, List.set_cons_zero, List.set_cons_succ]); go_wp2; go_ret; exact ⟨rfl, HFIN.out, HBB.out⟩)
                  exact AllR.nil
                (refine AllR.cons (TakesR.pure (v := ?_) rfl rfl ?_ ?_) ?_; rotate_left; · (go_simp; all_goals with_reducible rfl))
                · (try simp only [Act.put, List.setIfInBounds_toArray, List.set_cons_zero, List.set_cons_succ])
                  refine anyR_ready [3] (by kernel_rfl) (by simp) ?_
                  (refine AllR.cons (TakesR.pure (v := ?_) rfl rfl ?_ ?_) ?_; rotate_left; · (go_simp; all_goals with_reducible rfl))
                  · (try simp only [Act.put, List.setIfInBounds_toArray, List.set_cons_zero, List.set_cons_succ])
                    refine anyR_ready [6] (by kernel_rfl) (by simp) ?_
                    refine AllR.cons (TakesR.send (x := .tmp 42) (y := .tmp 44) (c := k.gc) (cap := k.n) (buf := encZ Q) (v := .int .i64 x.r) rfl rfl rfl (by go_simp) (by go_simp) HCH.out HRM.out ?_) AllR.nil
                    refine anyR_done (by kernel_rfl) ?_ _
                    ((try simp only [Act.put, List.setIfInBounds_toArray, List.set_cons_zero, List.set_cons_succ]); go_wp2; go_ret; exact ⟨rfl, HFIN.out, HBB.out⟩)
                  exact AllR.nil
                exact AllR.nil
              (refine AllR.cons (TakesR.pure (v := ?_) rfl rfl ?_ ?_) ?_; rotate_left; · (go_simp; all_goals with_reducible rfl))
              · (try simp only [Act.put, List.setIfInBounds_toArray, List.set_cons_zero, List.set_cons_succ])
                refine anyR_ready [2] (by kernel_rfl) (by simp) ?_
                (refine AllR.cons (TakesR.pure (v := ?_) rfl rfl ?_ ?_) ?_; rotate_left; · (go_simp; all_goals with_reducible rfl))
                · (try simp only [Act.put, List.setIfInBounds_toArray, List.set_cons_zero, List.set_cons_succ])
                  refine anyR_ready [3] (by kernel_rfl) (by simp) ?_
                  (refine AllR.cons (TakesR.pure (v := ?_) rfl rfl ?_ ?_) ?_; rotate_left; · (go_simp; all_goals with_reducible rfl))
                  · (try simp only [Act.put, List.setIfInBounds_toArray, List.set_cons_zero, List.set_cons_succ])
                    refine anyR_ready [6] (by kernel_rfl) (by simp) ?_
                    refine AllR.cons (TakesR.send (x := .tmp 42) (y := .tmp 44) (c := k.gc) (cap := k.n) (buf := encZ Q) (v := .int .i64 x.r) rfl rfl rfl (by go_simp) (by go_simp) HCH.out HRM.out ?_) AllR.nil
                    refine anyR_done (by kernel_rfl) ?_ _
                    ((try simp only [Act.put, List.setIfInBounds_toArray, List.set_cons_zero, List.set_cons_succ]); go_wp2; go_ret; exact ⟨rfl, HFIN.out, HBB.out⟩)
                  exact AllR.nil
                exact AllR.nil
              exact AllR.nil
            exact AllR.nil
          (refine AllR.cons (TakesR.pure (v := ?_) rfl rfl ?_ ?_) ?_; rotate_left; · (go_simp; all_goals with_reducible rfl))
          · (try simp only [Act.put, List.setIfInBounds_toArray, List.set_cons_zero, List.set_cons_succ])
            refine anyR_ready [1, 5] (by kernel_rfl) (by simp) ?_
            (refine AllR.cons (TakesR.pure (v := ?_) rfl rfl ?_ ?_) ?_; rotate_left; · (go_simp; all_goals with_reducible rfl))
            · (try simp only [Act.put, List.setIfInBounds_toArray, List.set_cons_zero, List.set_cons_succ])
              refine anyR_ready [2, 5] (by kernel_rfl) (by simp) ?_
              (refine AllR.cons (TakesR.pure (v := ?_) rfl rfl ?_ ?_) ?_; rotate_left; · (go_simp; all_goals with_reducible rfl))
              · (try simp only [Act.put, List.setIfInBounds_toArray, List.set_cons_zero, List.set_cons_succ])
                refine anyR_ready [3, 5] (by kernel_rfl) (by simp) ?_
                (refine AllR.cons (TakesR.pure (v := ?_) rfl rfl ?_ ?_) ?_; rotate_left; · (go_simp; all_goals with_reducible rfl))
                · (try simp only [Act.put, List.setIfInBounds_toArray, List.set_cons_zero, List.set_cons_succ])
                  refine anyR_ready [5] (by kernel_rfl) (by simp) ?_
                  (refine AllR.cons (TakesR.pure (v := ?_) rfl rfl ?_ ?_) ?_; rotate_left; · (go_simp; all_goals with_reducible rfl))
                  · (try simp only [Act.put, List.setIfInBounds_toArray, List.set_cons_zero, List.set_cons_succ])
                    refine anyR_ready [6] (by kernel_rfl) (by simp) ?_
                    refine AllR.cons (TakesR.send (x := .tmp 42) (y := .tmp 44) (c := k.gc) (cap := k.n) (buf := encZ Q) (v := .int .i64 x.r) rfl rfl rfl (by go_simp) (by go_simp) HCH.out HRM.out ?_) AllR.nil
                    refine anyR_done (by kernel_rfl) ?_ _
                    ((try simp only [Act.put, List.setIfInBounds_toArray, List.set_cons_zero, List.set_cons_succ]); go_wp2; go_ret; exact ⟨rfl, HFIN.out, HBB.out⟩)
                  exact AllR.nil
                (refine AllR.cons (TakesR.pure (v := ?_) rfl rfl ?_ ?_) ?_; rotate_left; · (go_simp; all_goals with_reducible rfl))
                · (try simp only [Act.put, List.setIfInBounds_toArray, List.set_cons_zero, List.set_cons_succ])
                  refine anyR_ready [3] (by kernel_rfl) (by simp) ?_
                  (refine AllR.cons (TakesR.pure (v := ?_) rfl rfl ?_ ?_) ?_; rotate_left; · (go_simp; all_goals with_reducible rfl))
                  · (try simp only [Act.put, List.setIfInBounds_toArray, List.set_cons_zero, List.set_cons_succ])
                    refine anyR_ready [6] (by kernel_rfl) (by simp) ?_
                    refine AllR.cons (TakesR.send (x := .tmp 42) (y := .tmp 44) (c := k.gc) (cap := k.n) (buf := encZ Q) (v := .int .i64 x.r) rfl rfl rfl (by go_simp) (by go_simp) HCH.out HRM.out ?_) AllR.nil
                    refine anyR_done (by kernel_rfl) ?_ _
                    ((try simp only [Act.put, List.setIfInBounds_toArray, List.set_cons_zero, List.set_cons_succ]); go_wp2; go_ret; exact ⟨rfl, HFIN.out, HBB.out⟩)
                  exact AllR.nil
                exact AllR.nil
              (refine AllR.cons (TakesR.pure (v := ?_) rfl rfl ?_ ?_) ?_; rotate_left; · (go_simp; all_goals with_reducible rfl))
              · (try simp only [Act.put, List.setIfInBounds_toArray, List.set_cons_zero, List.set_cons_succ])
                refine anyR_ready [2] (by kernel_rfl) (by simp) ?_
                (refine AllR.cons (TakesR.pure (v := ?_) rfl rfl ?_ ?_) ?_; rotate_left; · (go_simp; all_goals with_reducible rfl))
                · (try simp only [Act.put, List.setIfInBounds_toArray, List.set_cons_zero, List.set_cons_succ])
                  refine anyR_ready [3] (by kernel_rfl) (by simp) ?_
                  (refine AllR.cons (TakesR.pure (v := ?_) rfl rfl ?_ ?_) ?_; rotate_left; · (go_simp; all_goals with_reducible rfl))
                  · (try simp only [Act.put, List.setIfInBounds_toArray, List.set_cons_zero, List.set_cons_succ])
                    refine anyR_ready [6] (by kernel_rfl) (by simp) ?_
                    refine AllR.cons (TakesR.send (x := .tmp 42) (y := .tmp 44) (c := k.gc) (cap := k.n) (buf := encZ Q) (v := .int .i64 x.r) rfl rfl rfl (by go_simp) (by go_simp) HCH.out HRM.out ?_) AllR.nil
                    refine anyR_done (by kernel_rfl) ?_ _
                    ((try simp only [Act.put, List.setIfInBounds_toArray, List.set_cons_zero, List.set_cons_succ]); go_wp2; go_ret; exact ⟨rfl, HFIN.out, HBB.out⟩)
                  exact AllR.nil
                exact AllR.nil
              exact AllR.nil
            (refine AllR.cons (TakesR.pure (v := ?_) rfl rfl ?_ ?_) ?_; rotate_left; · (go_simp; all_goals with_reducible rfl))
            · (try simp only [Act.put, List.setIfInBounds_toArray, List.set_cons_zero, List.set_cons_succ])
              refine anyR_ready [1] (by kernel_rfl) (by simp) ?_
              (refine AllR.cons (TakesR.pure (v := ?_) rfl rfl ?_ ?_) ?_; rotate_left; · (go_simp; all_goals with_reducible rfl))
              · (try simp only [Act.put, List.setIfInBounds_toArray, List.set_cons_zero, List.set_cons_succ])
                refine anyR_ready [2] (by kernel_rfl) (by simp) ?_
                (refine AllR.cons (TakesR.pure (v := ?_) rfl rfl ?_ ?_) ?_; rotate_left; · (go_simp; all_goals with_reducible rfl))
                · (try simp only [Act.put, List.setIfInBounds_toArray, List.set_cons_zero, List.set_cons_succ])
                  refine anyR_ready [3] (by kernel_rfl) (by simp) ?_
                  (refine AllR.cons (TakesR.pure (v := ?_) rfl rfl ?_ ?_) ?_; rotate_left; · (go_simp; all_goals with_reducible rfl))
                  · (try simp only [Act.put, List.setIfInBounds_toArray, List.set_cons_zero, List.set_cons_succ])
                    refine anyR_ready [6] (by kernel_rfl) (by simp) ?_
                    refine AllR.cons (TakesR.send (x := .tmp 42) (y := .tmp 44) (c := k.gc) (cap := k.n) (buf := encZ Q) (v := .int .i64 x.r) rfl rfl rfl (by go_simp) (by go_simp) HCH.out HRM.out ?_) AllR.nil
                    refine anyR_done (by kernel_rfl) ?_ _
                    ((try simp only [Act.put, List.setIfInBounds_toArray, List.set_cons_zero, List.set_cons_succ]); go_wp2; go_ret; exact ⟨rfl, HFIN.out, HBB.out⟩)
                  exact AllR.nil
                exact AllR.nil
              exact AllR.nil
            exact AllR.nil
          exact AllR.nil
        (refine AllR.cons (TakesR.pure (v := ?_) rfl rfl ?_ ?_) ?_; rotate_left; · (go_simp; all_goals with_reducible rfl))
        · (try simp only [Act.put, List.setIfInBounds_toArray, List.set_cons_zero, List.set_cons_succ])
          refine anyR_ready [0, 5] (by kernel_rfl) (by simp) ?_
          (refine AllR.cons (TakesR.pure (v := ?_) rfl rfl ?_ ?_) ?_; rotate_left; · (go_simp; all_goals with_reducible rfl))
          · (try simp only [Act.put, List.setIfInBounds_toArray, List.set_cons_zero, List.set_cons_succ])
            refine anyR_ready [1, 5] (by kernel_rfl) (by simp) ?_
            (refine AllR.cons (TakesR.pure (v := ?_) rfl rfl ?_ ?_) ?_; rotate_left; · (go_simp; all_goals with_reducible rfl))
            · (try simp only [Act.put, List.setIfInBounds_toArray, List.set_cons_zero, List.set_cons_succ])
              refine anyR_ready [2, 5] (by kernel_rfl) (by simp) ?_
              (refine AllR.cons (TakesR.pure (v := ?_) rfl rfl ?_ ?_) ?_; rotate_left; · (go_simp; all_goals with_reducible rfl))
              · (try simp only [Act.put, List.setIfInBounds_toArray, List.set_cons_zero, List.set_cons_succ])
                refine anyR_ready [3, 5] (by kernel_rfl) (by simp) ?_
                (refine AllR.cons (TakesR.pure (v := ?_) rfl rfl ?_ ?_) ?_; rotate_left; · (go_simp; all_goals with_reducible rfl))
                · (try simp only [Act.put, List.setIfInBounds_toArray, List.set_cons_zero, List.set_cons_succ])
                  refine anyR_ready [5] (by kernel_rfl) (by simp) ?_
                  (refine AllR.cons (TakesR.pure (v := ?_) rfl rfl ?_ ?_) ?_; rotate_left; · (go_simp; all_goals with_reducible rfl))
                  · (try simp only [Act.put, List.setIfInBounds_toArray, List.set_cons_zero, List.set_cons_succ])
                    refine anyR_ready [6] (by kernel_rfl) (by simp) ?_
                    refine AllR.cons (TakesR.send (x := .tmp 42) (y := .tmp 44) (c := k.gc) (cap := k.n) (buf := encZ Q) (v := .int .i64 x.r) rfl rfl rfl (by go_simp) (by go_simp) HCH.out HRM.out ?_) AllR.nil
                    refine anyR_done (by kernel_rfl) ?_ _
                    ((try simp only [Act.put, List.setIfInBounds_toArray, List.set_cons_zero, List.set_cons_succ]); go_wp2; go_ret; exact ⟨rfl, HFIN.out, HBB.out⟩)
                  exact AllR.nil
                (refine AllR.cons (TakesR.pure (v := ?_) rfl rfl ?_ ?_) ?_; rotate_left; · (go_simp; all_goals with_reducible rfl))
                · (try simp only [Act.put, List.setIfInBounds_toArray, List.set_cons_zero, List.set_cons_succ])
                  refine anyR_ready [3] (by kernel_rfl) (by simp) ?_
                  (refine AllR.cons (TakesR.pure (v := ?_) rfl rfl ?_ ?_) ?_; rotate_left; · (go_simp; all_goals with_reducible rfl))
                  · (try simp only [Act.put, List.setIfInBounds_toArray, List.set_cons_zero, List.set_cons_succ])
                    refine anyR_ready [6] (by kernel_rfl) (by simp) ?_
                    refine AllR.cons (TakesR.send (x := .tmp 42) (y := .tmp 44) (c := k.gc) (cap := k.n) (buf := encZ Q) (v := .int .i64 x.r) rfl rfl rfl (by go_simp) (by go_simp) HCH.out HRM.out ?_) AllR.nil
                    refine anyR_done (by kernel_rfl) ?_ _
                    ((try simp only [Act.put, List.setIfInBounds_toArray, List.set_cons_zero, List.set_cons_succ]); go_wp2; go_ret; exact ⟨rfl, HFIN.out, HBB.out⟩)
                  exact AllR.nil
                exact AllR.nil
              (refine AllR.cons (TakesR.pure (v := ?_) rfl rfl ?_ ?_) ?_; rotate_left; · (go_simp; all_goals with_reducible rfl))
              · (try simp only [Act.put, List.setIfInBounds_toArray, List.set_cons_zero, List.set_cons_succ])
                refine anyR_ready [2] (by kernel_rfl) (by simp) ?_
                (refine AllR.cons (TakesR.pure (v := ?_) rfl rfl ?_ ?_) ?_; rotate_left; · (go_simp; all_goals with_reducible rfl))
                · (try simp only [Act.put, List.setIfInBounds_toArray, List.set_cons_zero, List.set_cons_succ])
                  refine anyR_ready [3] (by kernel_rfl) (by simp) ?_
                  (refine AllR.cons (TakesR.pure (v := ?_) rfl rfl ?_ ?_) ?_; rotate_left; · (go_simp; all_goals with_reducible rfl))
                  · (try simp only [Act.put, List.setIfInBounds_toArray, List.set_cons_zero, List.set_cons_succ])
                    refine anyR_ready [6] (by kernel_rfl) (by simp) ?_
                    refine AllR.cons (TakesR.send (x := .tmp 42) (y := .tmp 44) (c := k.gc) (cap := k.n) (buf := encZ Q) (v := .int .i64 x.r) rfl rfl rfl (by go_simp) (by go_simp) HCH.out HRM.out ?_) AllR.nil
                    refine anyR_done (by kernel_rfl) ?_ _
                    ((try simp only [Act.put, List.setIfInBounds_toArray, List.set_cons_zero, List.set_cons_succ]); go_wp2; go_ret; exact ⟨rfl, HFIN.out, HBB.out⟩)
                  exact AllR.nil
                exact AllR.nil
              exact AllR.nil
            (refine AllR.cons (TakesR.pure (v := ?_) rfl rfl ?_ ?_) ?_; rotate_left; · (go_simp; all_goals with_reducible rfl))
            · (try simp only [Act.put, List.setIfInBounds_toArray, List.set_cons_zero, List.set_cons_succ])
              refine anyR_ready [1] (by kernel_rfl) (by simp) ?_
              (refine AllR.cons (TakesR.pure (v := ?_) rfl rfl ?_ ?_) ?_; rotate_left; · (go_simp; all_goals with_reducible rfl))
              · (try simp only [Act.put, List.setIfInBounds_toArray, List.set_cons_zero, List.set_cons_succ])
                refine anyR_ready [2] (by kernel_rfl) (by simp) ?_
                (refine AllR.cons (TakesR.pure (v := ?_) rfl rfl ?_ ?_) ?_; rotate_left; · (go_simp; all_goals with_reducible rfl))
                · (try simp only [Act.put, List.setIfInBounds_toArray, List.set_cons_zero, List.set_cons_succ])
                  refine anyR_ready [3] (by kernel_rfl) (by simp) ?_
                  (refine AllR.cons (TakesR.pure (v := ?_) rfl rfl ?_ ?_) ?_; rotate_left; · (go_simp; all_goals with_reducible rfl))
                  · (try simp only [Act.put, List.setIfInBounds_toArray, List.set_cons_zero, List.set_cons_succ])
                    refine anyR_ready [6] (by kernel_rfl) (by simp) ?_
                    refine AllR.cons (TakesR.send (x := .tmp 42) (y := .tmp 44) (c := k.gc) (cap := k.n) (buf := encZ Q) (v := .int .i64 x.r) rfl rfl rfl (by go_simp) (by go_simp) HCH.out HRM.out ?_) AllR.nil
                    refine anyR_done (by kernel_rfl) ?_ _
                    ((try simp only [Act.put, List.setIfInBounds_toArray, List.set_cons_zero, List.set_cons_succ]); go_wp2; go_ret; exact ⟨rfl, HFIN.out, HBB.out⟩)
                  exact AllR.nil
                exact AllR.nil
              exact AllR.nil
            exact AllR.nil
          (refine AllR.cons (TakesR.pure (v := ?_) rfl rfl ?_ ?_) ?_; rotate_left; · (go_simp; all_goals with_reducible rfl))
          · (try simp only [Act.put, List.setIfInBounds_toArray, List.set_cons_zero, List.set_cons_succ])
            refine anyR_ready [0] (by kernel_rfl) (by simp) ?_
            (refine AllR.cons (TakesR.pure (v := ?_) rfl rfl ?_ ?_) ?_; rotate_left; · (go_simp; all_goals with_reducible rfl))
            · (try simp only [Act.put, List.setIfInBounds_toArray, List.set_cons_zero, List.set_cons_succ])
              refine anyR_ready [1] (by kernel_rfl) (by simp) ?_
              (refine AllR.cons (TakesR.pure (v := ?_) rfl rfl ?_ ?_) ?_; rotate_left; · (go_simp; all_goals with_reducible rfl))
              · (try simp only [Act.put, List.setIfInBounds_toArray, List.set_cons_zero, List.set_cons_succ])
                refine anyR_ready [2] (by kernel_rfl) (by simp) ?_
                (refine AllR.cons (TakesR.pure (v := ?_) rfl rfl ?_ ?_) ?_; rotate_left; · (go_simp; all_goals with_reducible rfl))
                · (try simp only [Act.put, List.setIfInBounds_toArray, List.set_cons_zero, List.set_cons_succ])
                  refine anyR_ready [3] (by kernel_rfl) (by simp) ?_
                  (refine AllR.cons (TakesR.pure (v := ?_) rfl rfl ?_ ?_) ?_; rotate_left; · (go_simp; all_goals with_reducible rfl))
                  · (try simp only [Act.put, List.setIfInBounds_toArray, List.set_cons_zero, List.set_cons_succ])
                    refine anyR_ready [6] (by kernel_rfl) (by simp) ?_
                    refine AllR.cons (TakesR.send (x := .tmp 42) (y := .tmp 44) (c := k.gc) (cap := k.n) (buf := encZ Q) (v := .int .i64 x.r) rfl rfl rfl (by go_simp) (by go_simp) HCH.out HRM.out ?_) AllR.nil
                    refine anyR_done (by kernel_rfl) ?_ _
                    ((try simp only [Act.put, List.setIfInBounds_toArray, List.set_cons_zero, List.set_cons_succ]); go_wp2; go_ret; exact ⟨rfl, HFIN.out, HBB.out⟩)
                  exact AllR.nil
                exact AllR.nil
              exact AllR.nil
            exact AllR.nil
          exact AllR.nil
        exact AllR.nil
      · have hF : handF B Q x m i = (true, B, Q) := by simp [handF, h1, h2, h3]
        rw [hF]
        clear hF
        have hz := HW1.out.drew
        have HZ := Lib.hid hz
        clear hz
        go_enter Try.func72, Try.ntmps72
        go_wp2_with fail
        rw [← HW.out]
        go_region
        go_wp2
        go_ret
        exact ⟨rfl, HZ.out, ⟨HBW1.out.os, HBW1.out.tape, HBW1.out.output, HBW1.out.size, HBW1.out.block⟩⟩
end Go.Proofs.Ytlbachjhhjjmfaa.Mu
namespace Go.Proofs.Ytlbachjhhjjmfaa.Mu
set_option linter.unusedSimpArgs false
open Go.ChangeShapes Go.WideShapes Go.ChangeAt Go.RowKit Go.Shelf

attribute [local go_sem] Oper.semAt_some

/-- What by holds, and what is still to do, behind the first v rounds of begin. -/
def begB (G : List Int) (m : Int) (B : List Int) : Nat → List Int
  | 0 => B
  | v + 1 => (begB G m B v).set v (if m ≤ G[v]?.getD 0 then -2 else -1)
def begQ (G : List Int) (m : Int) : Nat → List Int
  | 0 => []
  | v + 1 => begQ G m v ++ if m ≤ G[v]?.getD 0 then [(v : Int)] else []
theorem begB_len (G : List Int) (m : Int) (B : List Int) : ∀ v, (begB G m B v).length = B.length
  | 0 => rfl
  | v + 1 => by simp [begB, begB_len G m B v]
theorem begQ_len (G : List Int) (m : Int) : ∀ v, (begQ G m v).length ≤ v
  | 0 => Nat.le_refl _
  | v + 1 => by
    have := begQ_len G m v
    simp only [begQ, List.length_append]
    split <;> simp <;> omega

set_option maxRecDepth 100000 in
set_option maxHeartbeats 1000000 in
theorem begin_any (k : BkH) (xs : List Iq) (F N G B : List Int) (m : Int) (hn : k.n ≤ 1048576) (w : World) (h : St w k xs F N G B []) :
    Calls Try.prog 71 #[.pointer (some ⟨k.s, 0, none⟩), .int .u8 m] w fun e w' => (∃ v, e = .returned v) ∧ St w' k xs F N G (begB G m B k.n) (begQ G m k.n) ∧ Below k.base w w' := by
  have HB0 : Hid (Below k.base w w) := Lib.hid (Below.refl _ _)
  have HS := Lib.hid h
  have q3 : w.cell? ⟨k.s, 3, none⟩ = some (.slice (some ⟨k.ga, 0, none⟩) k.n k.n) := by simp [World.cell?, h.sol.hs, cellsS]
  clear h
  go_enter Try.func71, Try.ntmps71
  go_wp2
  clear q3
  go_loopw [11] (fun i wr => ∃ v : Nat, v ≤ k.n ∧ i = .int .i64 (v : Int) ∧ Hid (St wr k xs F N G (begB G m B v) (begQ G m v)) ∧ Hid (Below k.base w wr))
    (fun i _ => (k.n - intOf i).toNat)
  case atStart => exact ⟨0, Nat.zero_le _, rfl, HS, HB0⟩
  case round =>
    obtain ⟨v, hv, rfl, HSR, HBR⟩ := hrel
    by_cases hlt : v < k.n
    · have i1 : (0 : Int) ≤ (v : Int) := by omega
      have i2 : (v : Int) < (k.n : Int) := by omega
      have g3 := HSR.out.sol.ha.cell (j := v) (by have := HSR.out.lg; omega)
      have q4 : wr.cell? ⟨k.s, 4, none⟩ = some (.slice (some ⟨k.gb, 0, none⟩) k.n k.n) := by simp [World.cell?, HSR.out.sol.hs, cellsS]
      have qB := HSR.out.sol.hb.cell (j := v) (by have := HSR.out.lb; omega)
      have qF := HSR.out.sol.hb.frozen v
      have hs1 := HSR.out.setB v (-1)
      have HS1 := Lib.hid hs1
      have hb1 := HBR.out.setCell (p := ⟨k.gb, v, none⟩) HSR.out.d.1.2.2.2.2.1 (.int .i64 (-1))
      have HB1 := Lib.hid hb1
      clear hs1 hb1
      by_cases hm : m ≤ G[v]?.getD 0
      · have q4' : (wr.setCell ⟨k.gb, v, none⟩ (.int .i64 (-1))).cell? ⟨k.s, 4, none⟩ = some (.slice (some ⟨k.gb, 0, none⟩) k.n k.n) := by simp [World.cell?, HS1.out.sol.hs, cellsS]
        have qB' := HS1.out.sol.hb.cell (j := v) (by have := HS1.out.lb; omega)
        have qF' := HS1.out.sol.hb.frozen v
        have hs2 := HS1.out.setB v (-2)
        rw [List.set_set] at hs2
        obtain ⟨sq, rq, hch⟩ := hs2.ch
        have HS2 := Lib.hid hs2
        have HCH := Lib.hid hch
        have hl := begQ_len G m v
        have HRM : Hid ((encZ (begQ G m v)).size < k.n) := Lib.hid (by rw [encZ_size]; omega)
        have HFIN : Hid (St (((wr.setCell ⟨k.gb, v, none⟩ (.int .i64 (-1))).setCell ⟨k.gb, v, none⟩ (.int .i64 (-2))).setChan k.gc k.n ((encZ (begQ G m v)).push (.int .i64 v)) false (sq + 1) rq false) k xs F N G (begB G m B (v + 1)) (begQ G m (v + 1))) := Lib.hid (by
          rw [encZ_push]
          have h := hs2.chan (begQ G m v ++ [(v : Int)]) (sq + 1) rq
          simp only [begB, begQ, if_pos hm]
          exact h)
        have HBB : Hid (Below k.base w (((wr.setCell ⟨k.gb, v, none⟩ (.int .i64 (-1))).setCell ⟨k.gb, v, none⟩ (.int .i64 (-2))).setChan k.gc k.n ((encZ (begQ G m v)).push (.int .i64 v)) false (sq + 1) rq false)) := Lib.hid
          (Conc.below_setChan (HB1.out.setCell (p := ⟨k.gb, v, none⟩) HS2.out.d.1.2.2.2.2.1 (.int .i64 (-2))) HS2.out.d.1.2.2.2.2.2 _ _ _ _ _ _)
        have r5 : ((wr.setCell ⟨k.gb, v, none⟩ (.int .i64 (-1))).setCell ⟨k.gb, v, none⟩ (.int .i64 (-2))).cell? ⟨k.s, 5, none⟩ = some (.chan (some k.gc)) := by simp [World.cell?, HS2.out.sol.hs, cellsS]
        clear hs2 hch hl
        generalize hc6 : Code.region 6 #[{ dst := some 31, op := Op.move (Operand.tmp 0), type := 84, pos := "least.go:113", after := #[], guard := none }, { dst := some 32, op := Op.nilCheck (Operand.tmp 31), type := 0, pos := "least.go:113", after := #[{ on := 0, ground := Ground.data }], guard := none }, { dst := some 33, op := Op.fieldAddr 90 (Operand.tmp 32) 5, type := 0, pos := "least.go:113", after := #[{ on := 1, ground := Ground.data }], guard := none }, { dst := some 34, op := Op.load 88 (Operand.tmp 33), type := 88, pos := "least.go:113", after := #[{ on := 2, ground := Ground.data }], guard := none }, { dst := some 35, op := Op.move (Operand.tmp 4), type := 3, pos := "least.go:113", after := #[], guard := none }, { dst := none, op := Op.send (Operand.tmp 34) (Operand.tmp 35), type := 0, pos := "least.go:113", after := #[{ on := 3, ground := Ground.data }, { on := 4, ground := Ground.data }], guard := none }] false = c6
        have HC6 := Lib.hid hc6
        clear hc6
        go_wp2_with fail
        rw [← HC6.out]
        refine AtR.region ?_
        change AtR _ _ _ [0, 1, 2, 3, 4, 5] _ _
        (refine AtR.pure (v := ?_) rfl rfl ?_ ?_; rotate_left; · (go_simp; all_goals with_reducible rfl))
        (try simp only [Act.put, List.setIfInBounds_toArray, List.set_cons_zero, List.set_cons_succ])
        (refine AtR.pure (v := ?_) rfl rfl ?_ ?_; rotate_left; · (go_simp; all_goals with_reducible rfl))
        (try simp only [Act.put, List.setIfInBounds_toArray, List.set_cons_zero, List.set_cons_succ])
        (refine AtR.pure (v := ?_) rfl rfl ?_ ?_; rotate_left; · (go_simp; all_goals with_reducible rfl))
        (try simp only [Act.put, List.setIfInBounds_toArray, List.set_cons_zero, List.set_cons_succ])
        (refine AtR.pure (v := ?_) rfl rfl ?_ ?_; rotate_left; · (go_simp; all_goals with_reducible rfl))
        (try simp only [Act.put, List.setIfInBounds_toArray, List.set_cons_zero, List.set_cons_succ])
        (refine AtR.pure (v := ?_) rfl rfl ?_ ?_; rotate_left; · (go_simp; all_goals with_reducible rfl))
        (try simp only [Act.put, List.setIfInBounds_toArray, List.set_cons_zero, List.set_cons_succ])
        refine AtR.send (x := .tmp 34) (y := .tmp 35) (c := k.gc) (cap := k.n) (buf := encZ (begQ G m v)) (v := .int .i64 v) rfl rfl rfl (by go_simp) (by go_simp) HCH.out HRM.out ?_
        refine AtR.nil ?_
        (try simp only [Act.put, List.setIfInBounds_toArray, List.set_cons_zero, List.set_cons_succ])
        go_wp2
        go_roundw
        case rel => exact ⟨v + 1, by omega, by go_num, HFIN, HBB⟩
        case measure => simp [intOf]; omega
      · have HFIN : Hid (St (wr.setCell ⟨k.gb, v, none⟩ (.int .i64 (-1))) k xs F N G (begB G m B (v + 1)) (begQ G m (v + 1))) := Lib.hid (by
          simp only [begB, begQ, if_neg hm, List.append_nil]
          exact HS1.out)
        go_wp2
        go_roundw
        case rel => exact ⟨v + 1, by omega, by go_num, HFIN, HB1⟩
        case measure => simp [intOf]; omega
    · obtain rfl : v = k.n := by omega
      go_wp2
      go_end0
      exact ⟨⟨_, rfl⟩, HSR.out, HBR.out⟩
end Go.Proofs.Ytlbachjhhjjmfaa.Mu
namespace Go.Proofs.Ytlbachjhhjjmfaa.Mu
open Go

abbrev iq0 : Iq := ⟨0, 0, 0, 0⟩
/-- handOn at these inequalities, one by the other, until one cannot be. -/
def handL (xs : List Iq) (m : Int) : List Nat → List Int → List Int → Option Nat × List Int × List Int
  | [], B, Q => (none, B, Q)
  | i :: is, B, Q => if (handF B Q (xs[i]?.getD iq0) m i).1 then handL xs m is (handF B Q (xs[i]?.getD iq0) m i).2.1 (handF B Q (xs[i]?.getD iq0) m i).2.2 else (some i, B, Q)
/-- The loop over what is still to do, the row of each variable being given. -/
def todoL (xs : List Iq) (m : Int) (R : Nat → List Nat) : Nat → List Int → List Int → List Int → Option Nat × List Int × List Int
  | 0, G, B, _ => (none, G, B)
  | _ + 1, G, B, [] => (none, G, B)
  | f + 1, G, B, v :: Q => match handL xs m (R v.toNat) B Q with
    | (some i, B', _) => (some i, G.set v.toNat (max (G[v.toNat]?.getD 0) m), B')
    | (none, B', Q') => todoL xs m R f (G.set v.toNat (max (G[v.toNat]?.getD 0) m)) B' Q'
/-- The inequalities from i on whose L is a constant, m at least. -/
def firstL (xs : List Iq) (m : Int) (i : Nat) : List Nat := (List.range' i (xs.length - i)).filter fun j => decide (m ≤ (xs[j]?.getD iq0).m)
def raiseF (xs : List Iq) (n : Nat) (m : Int) (R : Nat → List Nat) (G B0 : List Int) : Option Nat × List Int × List Int :=
  match handL xs m (firstL xs m 0) (begB G m B0 n) (begQ G m n) with
  | (some i, B, _) => (some i, G, B)
  | (none, B, Q) => todoL xs m R n G B Q

theorem handL_cons {xs : List Iq} {m : Int} {i : Nat} {x : Iq} (hx : xs[i]? = some x) (is : List Nat) (B Q : List Int) : handL xs m (i :: is) B Q = if (handF B Q x m i).1 then handL xs m is (handF B Q x m i).2.1 (handF B Q x m i).2.2 else (some i, B, Q) := by
  simp only [handL, hx, Option.getD_some]
theorem raiseF_some {xs : List Iq} {n : Nat} {m : Int} {R : Nat → List Nat} {G B0 B Q : List Int} {i : Nat} (h : handL xs m (firstL xs m 0) (begB G m B0 n) (begQ G m n) = (some i, B, Q)) : raiseF xs n m R G B0 = (some i, G, B) := by
  unfold raiseF; rw [h]
theorem raiseF_none {xs : List Iq} {n : Nat} {m : Int} {R : Nat → List Nat} {G B0 B Q : List Int} (h : handL xs m (firstL xs m 0) (begB G m B0 n) (begQ G m n) = (none, B, Q)) : raiseF xs n m R G B0 = todoL xs m R n G B Q := by
  unfold raiseF; rw [h]
theorem todoL_nil {xs : List Iq} {m : Int} {R : Nat → List Nat} (f : Nat) (G B : List Int) : todoL xs m R f G B [] = (none, G, B) := by cases f <;> rfl
theorem firstL_end (xs : List Iq) (m : Int) : firstL xs m xs.length = [] := by simp [firstL]
theorem firstL_step (xs : List Iq) (m : Int) {i : Nat} {x : Iq} (hx : xs[i]? = some x) : firstL xs m i = if m ≤ x.m then i :: firstL xs m (i + 1) else firstL xs m (i + 1) := by
  have hi := (List.getElem?_eq_some_iff.1 hx).1
  unfold firstL
  rw [show xs.length - i = (xs.length - (i + 1)) + 1 by omega, List.range'_succ, List.filter_cons, hx]
  simp only [Option.getD_some, decide_eq_true_eq]

/-- Each inequality's R is a variable, or none. -/
def OkR (n : Nat) (xs : List Iq) : Prop := ∀ x ∈ xs, x.r = -1 ∨ 0 ≤ x.r ∧ x.r < n
theorem OkR.at_ {n : Nat} {xs : List Iq} (h : OkR n xs) {i : Nat} {x : Iq} (hx : xs[i]? = some x) : x.r = -1 ∨ 0 ≤ x.r ∧ x.r < n := h x (List.mem_of_getElem? hx)
/-- What holds of what raised a variable, and of what is to do, throughout. -/
structure BQ (n : Nat) (B Q : List Int) : Prop where
  lb : B.length = n
  room : B.count (-1) + Q.length ≤ n
  ok : ∀ v ∈ Q, 0 ≤ v ∧ v < n
theorem count_set_of {B : List Int} {j : Nat} {x : Int} (h : B[j]? = some (-1)) (hx : x ≠ -1) : (B.set j x).count (-1) + 1 = B.count (-1) := by
  have hj := (List.getElem?_eq_some_iff.1 h).1
  have hv := (List.getElem?_eq_some_iff.1 h).2
  have hp : 0 < B.count (-1) := List.count_pos_iff.2 (List.mem_of_getElem? h)
  rw [List.count_set hj]
  have e1 : (x == (-1 : Int)) = false := by simpa using hx
  simp only [hv, beq_self_eq_true, if_true, e1, Bool.false_eq_true, if_false]
  omega
theorem handF_BQ {n : Nat} {B Q : List Int} {x : Iq} {m : Int} {i : Nat} (h : BQ n B Q) (hr : x.r = -1 ∨ 0 ≤ x.r ∧ x.r < n) :
    BQ n (handF B Q x m i).2.1 (handF B Q x m i).2.2 ∧ (handF B Q x m i).2.1.count (-1) + (handF B Q x m i).2.2.length = B.count (-1) + Q.length := by
  unfold handF
  split
  · exact ⟨h, rfl⟩
  · split
    · exact ⟨h, rfl⟩
    · rename_i h2
      split
      · rename_i h3
        obtain ⟨r0, r1⟩ := hr.resolve_left h2
        have hlt : x.r.toNat < B.length := by have := h.lb; omega
        have hg : B[x.r.toNat]? = some (-1) := by
          rw [List.getElem?_eq_getElem hlt] at h3 ⊢
          simpa using h3
        have hc := count_set_of (x := (i : Int)) hg (by omega)
        have hs : (B.set x.r.toNat i).count (-1) + (Q ++ [x.r]).length = B.count (-1) + Q.length := by simp only [List.length_append, List.length_cons, List.length_nil]; omega
        refine ⟨⟨by simpa using h.lb, by dsimp only; have := h.room; omega, fun v hv => ?_⟩, hs⟩
        rcases List.mem_append.1 hv with hv | hv
        · exact h.ok v hv
        · rw [List.mem_singleton.1 hv]; exact ⟨r0, r1⟩
      · exact ⟨h, rfl⟩
/-- If something is unraised, there is room. -/
theorem BQ.room_ {n : Nat} {B Q : List Int} (h : BQ n B Q) {j : Nat} (hj : B[j]?.getD 0 = -1) : Q.length < n := by
  have : (-1 : Int) ∈ B := by
    cases hg : B[j]? with
    | none => rw [hg] at hj; simp at hj
    | some y => rw [hg] at hj; simp at hj; subst hj; exact List.mem_of_getElem? hg
  have hp := List.count_pos_iff.2 this
  have := h.room
  omega
theorem handF_false {B Q : List Int} {x : Iq} {m : Int} {i : Nat} (h : (handF B Q x m i).1 = false) : (handF B Q x m i).2 = (B, Q) := by
  unfold handF at *
  split at h
  · cases h
  · rename_i h1
    split at h
    · rename_i h2; simp [h1, h2]
    · split at h <;> cases h
theorem handL_BQ {n : Nat} {xs : List Iq} (hr : OkR n xs) {m : Int} : ∀ (is : List Nat) {B Q : List Int}, (∀ i ∈ is, i < xs.length) → BQ n B Q → BQ n (handL xs m is B Q).2.1 (handL xs m is B Q).2.2 ∧ (handL xs m is B Q).2.1.count (-1) + (handL xs m is B Q).2.2.length = B.count (-1) + Q.length := by
  intro is
  induction is with
  | nil => intro B Q _ h; exact ⟨h, rfl⟩
  | cons i is ih =>
    intro B Q hi h
    have hx : xs[i]? = some (xs[i]?.getD iq0) := by rw [List.getElem?_eq_getElem (hi i (by simp))]; rfl
    obtain ⟨a, b⟩ := handF_BQ (m := m) (i := i) h (hr.at_ hx)
    simp only [handL]
    split
    · obtain ⟨c, d⟩ := ih (fun j hj => hi j (List.mem_cons_of_mem _ hj)) a
      exact ⟨c, d.trans b⟩
    · exact ⟨h, rfl⟩
theorem beg_eq {n : Nat} {G B : List Int} {m : Int} (hb : B.length = n) : begB G m B n = (List.range n).map fun v => if m ≤ G[v]?.getD 0 then -2 else -1 := by
  have key : ∀ v j, (begB G m B v)[j]? = if j < v then (if j < B.length then some (if m ≤ G[j]?.getD 0 then (-2 : Int) else -1) else none) else B[j]? := by
    intro v
    induction v with
    | zero => intro j; simp [begB]
    | succ v ih =>
      intro j
      simp only [begB, List.getElem?_set, begB_len]
      by_cases e : v = j
      · subst e; simp
      · simp only [if_neg e, ih j]
        by_cases hj : j < v
        · have : j < v + 1 := by omega
          simp only [hj, this, if_true]
        · have : ¬ j < v + 1 := by omega
          simp only [hj, this, if_false]
  apply List.ext_getElem?
  intro j
  rw [key n j]
  by_cases hj : j < n
  · simp [hj, hb]
  · rw [if_neg hj, List.getElem?_eq_none (by omega), List.getElem?_eq_none (by simp; omega)]
theorem beg_BQ {n : Nat} {G B : List Int} {m : Int} (hb : B.length = n) : BQ n (begB G m B n) (begQ G m n) := by
  refine ⟨by rw [begB_len]; exact hb, ?_, ?_⟩
  · rw [beg_eq hb]
    clear hb
    induction n with
    | zero => simp [begQ]
    | succ n ih =>
      rw [List.range_succ, List.map_append, List.count_append]
      simp only [begQ, List.length_append, List.map_cons, List.map_nil]
      split <;> simp <;> omega
  · have key : ∀ n, ∀ v ∈ begQ G m n, 0 ≤ v ∧ v < (n : Int) := by
      intro n
      induction n with
      | zero => intro v hv; cases hv
      | succ n ih =>
        intro v hv
        rcases List.mem_append.1 hv with hv | hv
        · have := ih v hv; omega
        · split at hv
          · rw [List.mem_singleton.1 hv]; omega
          · cases hv
    exact key n
/-- The row that begins at p, as next has it. -/
def Chain (N : List Int) : Int → List Nat → Prop
  | p, [] => p = -1
  | p, i :: is => p = i ∧ i < N.length ∧ (N[i]?.getD 0 = -1 ∨ (i : Int) < N[i]?.getD 0) ∧ Chain N (N[i]?.getD 0) is
theorem Chain.lt {N : List Int} : ∀ {is : List Nat} {p : Int}, Chain N p is → ∀ i ∈ is, i < N.length
  | [], _, _, _, h => by cases h
  | j :: js, _, ⟨_, h1, _, h2⟩, i, hi => by
    rcases List.mem_cons.1 hi with rfl | hi
    · exact h1
    · exact h2.lt i hi
end Go.Proofs.Ytlbachjhhjjmfaa.Mu
namespace Go.Proofs.Ytlbachjhhjjmfaa.Mu
set_option linter.unusedSimpArgs false
open Go.ChangeShapes Go.WideShapes Go.ChangeAt Go.RowKit Go.Shelf

attribute [local go_sem] Oper.semAt_some

def retZ : Option Nat → Int
  | none => -1
  | some i => i
def mP (len : Nat) (p : Int) : Nat := if p < 0 then 0 else (len - p).toNat + 1
def isU : Value → Bool
  | .int _ i => i == -1
  | _ => false
def measW (k : BkH) (w : World) : Nat :=
  (match w.heap[k.gb]? with | some (.cells c _ _) => c.toList.countP isU | _ => 0) + (match w.heap[k.gc]? with | some (.chan _ b _ _ _ _) => b.size | _ => 0)
theorem measW_eq {w : World} {k : BkH} {xs : List Iq} {F N G B Q : List Int} (h : St w k xs F N G B Q) : measW k w = B.count (-1) + Q.length := by
  obtain ⟨a, b, e⟩ := h.ch
  have hb := h.sol.hb
  unfold Arr at hb
  unfold measW
  rw [e, hb]
  simp only [encZ_size]
  congr 1
  rw [List.countP_map]
  rfl

def RaisePost (k : BkH) (xs : List Iq) (F N : List Int) (T : Option Nat × List Int × List Int) (w : World) (e : Ending) (w' : World) : Prop :=
  e = .returned (.int .i64 (retZ T.1)) ∧ (∃ Q', (T.1 = none → Q' = []) ∧ St w' k xs F N T.2.1 T.2.2 Q') ∧ Below k.base w w'

set_option maxRecDepth 100000 in
set_option maxHeartbeats 2000000 in
theorem raise_any (k : BkH) (xs : List Iq) (F N G B : List Int) (m : Int) (R : Nat → List Nat) (hl : k.len ≤ 1048576) (hn : k.n ≤ 1048576) (hok : OkR k.n xs) (hR : ∀ v, v < k.n → Chain N (F[v]?.getD 0) (R v)) (w : World) (h : St w k xs F N G B []) :
    Calls Try.prog 46 #[.pointer (some ⟨k.s, 0, none⟩), .int .u8 m] w (RaisePost k xs F N (raiseF xs k.n m R G B) w) := by
  have HS := Lib.hid h
  have HOK := Lib.hid hok
  have HR := Lib.hid hR
  have HN := Lib.hid hn
  have HL := Lib.hid hl
  have HLX := Lib.hid h.q.len
  clear h hok hR
  obtain ⟨T, hT⟩ : ∃ T, T = raiseF xs k.n m R G B := ⟨_, rfl⟩
  rw [← hT]
  have HT := Lib.hid hT
  clear hT
  go_enter Try.func46, Try.ntmps46
  go_wp2_with fail
  refine (begin_any k xs F N G B m HN.out w HS.out).mono ?_
  rintro e w1 ⟨⟨v, rfl⟩, hs1, hb1⟩
  have HS1 := Lib.hid hs1
  have HB1 := Lib.hid hb1
  have q0 : w1.cell? ⟨k.s, 0, none⟩ = some (.slice k.A k.len k.cap) := by simp [World.cell?, hs1.sol.hs, cellsS]
  clear hs1 hb1
  go_wp2_with fail
  clear q0
  go_loopw [17] (fun i wr => ∃ (j : Nat) (B1 Q1 : List Int), j ≤ k.len ∧ i = .int .i64 (j : Int) ∧ Hid (handL xs m (firstL xs m j) B1 Q1 = handL xs m (firstL xs m 0) (begB G m B k.n) (begQ G m k.n)) ∧ Hid (BQ k.n B1 Q1) ∧ Hid (St wr k xs F N G B1 Q1) ∧ Hid (Below k.base w wr))
    (fun i _ => (k.len - intOf i).toNat)
  case atStart => exact ⟨0, _, _, Nat.zero_le _, rfl, Lib.hid rfl, Lib.hid (beg_BQ HS.out.lb), HS1, HB1⟩
  case round =>
    obtain ⟨j, B1, Q1, hj, rfl, HHL, HBQ, HSR, HBR⟩ := hrel
    by_cases hlt : j < k.len
    · obtain ⟨x, hx⟩ : ∃ x, xs[j]? = some x := ⟨_, List.getElem?_eq_getElem (by rw [← HLX.out]; exact hlt)⟩
      obtain ⟨qb, qo, eA, qlt, qc⟩ := HSR.out.q.at_ (by omega)
      obtain ⟨c0, c1, c2, c3⟩ := qc j x hx
      have HX := Lib.hid hx
      have HA := Lib.hid eA
      have i1 : (0 : Int) ≤ (j : Int) := by omega
      have i2 : (j : Int) < (k.len : Int) := by omega
      rw [eA]
      clear qc hx eA qlt
      have HXW := Lib.hid (HSR.out.bel ((Bel.refl wr).alloc (.cells #[.int .i64 x.v, .int .u8 x.m, .int .u8 x.c, .int .i64 x.r] 34)))
      have HBA := Lib.hid (HBR.out.trans (Below.mono ((Bel.refl wr).alloc (.cells #[.int .i64 x.v, .int .u8 x.m, .int .u8 x.c, .int .i64 x.r] 34)) HSR.out.sz))
      by_cases hm : m ≤ x.m
      · have hst : handL xs m (firstL xs m j) B1 Q1 = if (handF B1 Q1 x m j).1 then handL xs m (firstL xs m (j + 1)) (handF B1 Q1 x m j).2.1 (handF B1 Q1 x m j).2.2 else (some j, B1, Q1) := by
          rw [firstL_step xs m HX.out, if_pos hm, handL_cons HX.out]
        have HST := Lib.hid (HHL.out.symm.trans hst)
        have HBF := Lib.hid (handF_BQ (m := m) (i := j) HBQ.out (HOK.out.at_ HX.out)).1
        clear hst
        go_wp2_with fail
        refine (handOn_any k xs F N G B1 Q1 j m x HX.out HL.out HN.out (HOK.out.at_ HX.out) (fun h3 => HBQ.out.room_ h3) _ HXW.out).mono ?_
        rintro e w2 ⟨rfl, hs2, hb2⟩
        obtain ⟨bb, hbb⟩ : ∃ bb, bb = (handF B1 Q1 x m j).1 := ⟨_, rfl⟩
        rw [← hbb]
        have HB2 := Lib.hid (HBA.out.trans hb2)
        have HBB := Lib.hid hbb
        cases bb
        · have he := HST.out
          rw [← hbb, if_neg (by simp)] at he
          rw [handF_false hbb.symm] at hs2
          have HE := Lib.hid he
          have HS2 := Lib.hid hs2
          clear he hs2 hb2 hbb
          go_wp2
          go_ret
          have ht := HT.out
          rw [raiseF_some HE.out] at ht
          rw [ht]
          exact ⟨rfl, ⟨_, (fun h => by cases h), HS2.out⟩, HB2.out⟩
        · have he := HST.out
          rw [← hbb, if_pos rfl] at he
          have HE := Lib.hid he.symm
          have HS2 := Lib.hid hs2
          clear he hs2 hb2 hbb
          go_wp2
          go_roundw
          case rel => exact ⟨j + 1, _, _, by omega, by go_num, HE, HBF, HS2, HB2⟩
          case measure => simp [intOf]; omega
      · have hst : handL xs m (firstL xs m j) B1 Q1 = handL xs m (firstL xs m (j + 1)) B1 Q1 := by
          rw [firstL_step xs m HX.out, if_neg hm]
        have HST := Lib.hid (hst.symm.trans HHL.out)
        clear hst
        go_wp2
        go_roundw
        case rel => exact ⟨j + 1, _, _, by omega, by go_num, HST, HBQ, HXW, HBA⟩
        case measure => simp [intOf]; omega
    · obtain rfl : j = k.len := by omega
      have hend := HHL.out
      rw [HLX.out, firstL_end] at hend
      have ht := HT.out
      rw [raiseF_none hend.symm] at ht
      have HT2 := Lib.hid ht.symm
      clear hend ht
      go_wp2_with fail
      go_loopw [] (fun wr => ∃ (f : Nat) (G2 B2 Q2 : List Int), Hid (todoL xs m R f G2 B2 Q2 = T) ∧ Hid (BQ k.n B2 Q2) ∧ Hid (B2.count (-1) + Q2.length ≤ f) ∧ Hid (St wr k xs F N G2 B2 Q2) ∧ Hid (Below k.base w wr))
        (fun W => measW k W)
      case atStart => exact ⟨k.n, G, B1, Q1, HT2, HBQ, Lib.hid HBQ.out.room, HSR, HBR⟩
      case round =>
        obtain ⟨f, G2, B2, Q2, HTL, HBQ2, HF2, HS2, HBW2⟩ := hrel
        generalize hc9 : Code.region 9 #[{ dst := some 40, op := Op.select #[{ chan := Operand.tmp 39, send := none, elem := 3 }] false, type := 0, pos := "least.go:93", after := #[], guard := none }, { dst := some 41, op := Op.extract (Operand.tmp 40) 0, type := 3, pos := "least.go:93", after := #[{ on := 0, ground := Ground.data }], guard := none }, { dst := some 42, op := Op.binOp BinOp.eql 3 (Operand.tmp 41) (Operand.const (Value.int IntKind.i64 0)) 3, type := 4, pos := "least.go:93", after := #[{ on := 1, ground := Ground.data }], guard := none }] false = c9
        have HC9 := Lib.hid hc9
        clear hc9
        have q5 : wr.cell? ⟨k.s, 5, none⟩ = some (.chan (some k.gc)) := by simp [World.cell?, HS2.out.sol.hs, cellsS]
        obtain ⟨sq, rq, hch⟩ := HS2.out.ch
        have HCH := Lib.hid hch
        clear hch
        cases Q2 with
        | nil =>
          have ht := HTL.out
          rw [todoL_nil] at ht
          have HTE := Lib.hid ht
          clear ht
          go_wp2_with fail
          rw [← HC9.out]
          refine AtR.region ?_
          change AtR _ _ _ [0, 1, 2] _ _
          refine AtR.default_ (x := .tmp 39) (c := k.gc) (z := .int .i64 0) rfl rfl rfl (by go_simp) (by rfl) HCH.out ?_
          (try simp only [Act.put, List.setIfInBounds_toArray, List.set_cons_zero, List.set_cons_succ])
          (refine AtR.pure (v := ?_) rfl rfl ?_ ?_; rotate_left; · (go_simp; all_goals with_reducible rfl))
          (try simp only [Act.put, List.setIfInBounds_toArray, List.set_cons_zero, List.set_cons_succ])
          (refine AtR.pure (v := ?_) rfl rfl ?_ ?_; rotate_left; · (go_simp; all_goals with_reducible rfl))
          (try simp only [Act.put, List.setIfInBounds_toArray, List.set_cons_zero, List.set_cons_succ])
          refine AtR.nil ?_
          go_wp2
          go_ret
          rw [← HTE.out]
          exact ⟨rfl, ⟨_, (fun _ => rfl), HS2.out⟩, HBW2.out⟩
        | cons v Q3 =>
          go_wp2_with fail
          rw [← HC9.out]
          refine AtR.region ?_
          change AtR _ _ _ [0, 1, 2] _ _
          refine AtR.recv (x := .tmp 39) (c := k.gc) (z := .int .i64 0) rfl rfl rfl (by go_simp) (by rfl) HCH.out (by simp [encZ]) ?_
          rw [encZ_head, encZ_tail]
          (try simp only [Act.put, List.setIfInBounds_toArray, List.set_cons_zero, List.set_cons_succ])
          (refine AtR.pure (v := ?_) rfl rfl ?_ ?_; rotate_left; · (go_simp; all_goals with_reducible rfl))
          (try simp only [Act.put, List.setIfInBounds_toArray, List.set_cons_zero, List.set_cons_succ])
          (refine AtR.pure (v := ?_) rfl rfl ?_ ?_; rotate_left; · (go_simp; all_goals with_reducible rfl))
          (try simp only [Act.put, List.setIfInBounds_toArray, List.set_cons_zero, List.set_cons_succ])
          refine AtR.nil ?_
          have HS3 := Lib.hid (HS2.out.chan Q3 sq (rq + 1))
          have HB3 := Lib.hid (Conc.below_setChan HBW2.out HS2.out.d.1.2.2.2.2.2 k.n (encZ Q3) false sq (rq + 1) false)
          obtain ⟨w3, hw3⟩ : ∃ w3, w3 = wr.setChan k.gc k.n (encZ Q3) false sq (rq + 1) false := ⟨_, rfl⟩
          rw [← hw3] at HS3 HB3 ⊢
          clear hw3
          obtain ⟨v0, v1⟩ := HBQ2.out.ok v (by simp)
          have q3 : w3.cell? ⟨k.s, 3, none⟩ = some (.slice (some ⟨k.ga, 0, none⟩) k.n k.n) := by simp [World.cell?, HS3.out.sol.hs, cellsS]
          have qG := HS3.out.sol.ha.cell (j := v.toNat) (by have := HS3.out.lg; omega)
          have qF := HS3.out.sol.ha.frozen v.toNat
          obtain ⟨g, hg⟩ : ∃ g, g = max (G2[v.toNat]?.getD 0) m := ⟨_, rfl⟩
          have HS4 := Lib.hid (HS3.out.setG v.toNat g)
          have HB4 := Lib.hid (HB3.out.setCell (p := ⟨k.ga, v.toNat, none⟩) HS3.out.d.1.2.2.2.1 (.int .u8 g))
          obtain ⟨w4, hw4⟩ : ∃ w4, w4 = w3.setCell ⟨k.ga, v.toNat, none⟩ (.int .u8 g) := ⟨_, rfl⟩
          have HW4 := Lib.hid hw4
          have HG := Lib.hid hg
          rw [← hw4] at HS4 HB4
          clear hw4 hg
          have q1 : w4.cell? ⟨k.s, 1, none⟩ = some (.slice (some ⟨k.gf, 0, none⟩) k.n k.n) := by simp [World.cell?, HS4.out.sol.hs, cellsS]
          have qf := HS4.out.sol.hf.cell (j := v.toNat) (by have := HS4.out.lf; omega)
          obtain ⟨f1, rfl⟩ : ∃ f1, f = f1 + 1 := ⟨f - 1, by have := HF2.out; simp only [List.length_cons] at this; omega⟩
          have hb3 : BQ k.n B2 Q3 := ⟨HBQ2.out.lb, by have := HBQ2.out.room; simp only [List.length_cons] at this; omega, fun u hu => HBQ2.out.ok u (List.mem_cons_of_mem _ hu)⟩
          have HBQ3 := Lib.hid hb3
          have HCN := Lib.hid (HR.out v.toNat (by omega))
          have HLN : Hid (N.length = xs.length) := Lib.hid (HS4.out.ln.trans HLX.out)
          have HTOT := Lib.hid (handL_BQ HOK.out (m := m) (R v.toNat) (fun i hi => by rw [← HLN.out]; exact HCN.out.lt i hi) HBQ3.out)
          have htl := HTL.out
          simp only [todoL] at htl
          rw [← HG.out] at htl
          have HTE := Lib.hid htl
          clear hb3 htl
          go_wp2_with fail
          go_region
          rw [← HG.out, ← HW4.out]
          clear q3 qG qF
          go_wp2_with fail
          clear q1 qf
          go_loopw [8] (fun p wi => ∃ (pI : Int) (is : List Nat) (B4 Q4 : List Int), p = .int .i64 pI ∧ Hid (Chain N pI is) ∧ Hid (handL xs m is B4 Q4 = handL xs m (R v.toNat) B2 Q3) ∧ Hid (BQ k.n B4 Q4) ∧ Hid (St wi k xs F N (G2.set v.toNat g) B4 Q4) ∧ Hid (Below k.base w wi))
            (fun p _ => mP k.len (intOf p))
          case atStart => exact ⟨_, _, _, _, rfl, HCN, Lib.hid rfl, HBQ3, Lib.hid HS4.out.drew, Lib.hid (let h := HB4.out; ⟨h.os, h.tape, h.output, h.size, h.block⟩)⟩
          case round =>
            obtain ⟨pI, is, B4, Q4, rfl, HCI, HHI, HBI, HSI, HBWI⟩ := hrel
            cases is with
            | nil =>
              obtain rfl : pI = -1 := HCI.out
              have he : handL xs m (R v.toNat) B2 Q3 = (none, B4, Q4) := HHI.out.symm
              have ht := HTE.out
              have htot := HTOT.out.2
              rw [he] at ht htot
              dsimp only at ht htot
              have HTN := Lib.hid ht
              have HTC := Lib.hid htot
              clear he ht htot
              go_wp2
              go_roundw
              case rel => exact ⟨f1, _, _, _, HTN, HBI, Lib.hid (by have h1 := HTC.out; have h2 := HF2.out; simp only [List.length_cons] at h2; omega), HSI, HBWI⟩
              case measure =>
                rw [measW_eq HSI.out, measW_eq HS2.out, HTC.out, List.length_cons]
                omega
            | cons i is =>
              obtain ⟨rfl, hil, hnx, hch⟩ := HCI.out
              obtain ⟨x, hx⟩ : ∃ x, xs[i]? = some x := ⟨_, List.getElem?_eq_getElem (by rw [← HLN.out]; exact hil)⟩
              have hii : i < k.len := by rw [HLX.out, ← HLN.out]; exact hil
              have HX := Lib.hid hx
              obtain ⟨y, hy⟩ : ∃ y, y = N[i]?.getD 0 := ⟨_, rfl⟩
              rw [← hy] at hch hnx
              have HY := Lib.hid hy
              have HIL := Lib.hid hil
              have HCH2 := Lib.hid hch
              have HNX := Lib.hid hnx
              have hst := handL_cons (m := m) hx is B4 Q4
              have HST := Lib.hid (HHI.out.symm.trans hst)
              have HBF := Lib.hid (handF_BQ (m := m) (i := i) HBI.out (HOK.out.at_ HX.out)).1
              have n1 : ¬ ((i : Int) = -1) := by omega
              clear hst hx hch hnx hy hil
              go_wp2_with fail
              refine (handOn_any k xs F N (G2.set v.toNat g) B4 Q4 i m x HX.out HL.out HN.out (HOK.out.at_ HX.out) (fun h3 => HBI.out.room_ h3) _ HSI.out).mono ?_
              rintro e w5 ⟨rfl, hs5, hb5⟩
              obtain ⟨bb, hbb⟩ : ∃ bb, bb = (handF B4 Q4 x m i).1 := ⟨_, rfl⟩
              rw [← hbb]
              have HB5 := Lib.hid (HBWI.out.trans hb5)
              cases bb
              · have he := HST.out
                rw [← hbb, if_neg (by simp)] at he
                rw [handF_false hbb.symm] at hs5
                have ht := HTE.out
                rw [he] at ht
                dsimp only at ht
                have HE := Lib.hid ht
                have HS5 := Lib.hid hs5
                clear he hs5 hb5 hbb ht
                go_wp2
                go_ret
                rw [← HE.out]
                exact ⟨rfl, ⟨_, (fun h => by cases h), HS5.out⟩, HB5.out⟩
              · have he := HST.out
                rw [← hbb, if_pos rfl] at he
                have HE := Lib.hid he.symm
                have HS5 := Lib.hid hs5
                have q2 : w5.cell? ⟨k.s, 2, none⟩ = some (.slice (some ⟨k.gn, 0, none⟩) k.len k.len) := by simp [World.cell?, HS5.out.sol.hs, cellsS]
                have qn := HS5.out.sol.hn.cell (j := i) HIL.out
                rw [← HY.out] at qn
                have i1 : (0 : Int) ≤ (i : Int) := by omega
                have i2 : (i : Int) < (k.len : Int) := by omega
                clear he hs5 hb5 hbb
                go_wp2
                go_roundw
                case rel => exact ⟨_, is, _, _, rfl, HCH2, HE, HBF, HS5, HB5⟩
                case measure =>
                  show mP k.len y < mP k.len i
                  have h := HNX.out
                  have hlen := HS5.out.ln
                  have hc := HCH2.out
                  unfold mP
                  rcases h with h | h
                  · rw [if_pos (by omega), if_neg (by omega)]; omega
                  · rw [if_neg (by omega), if_neg (by omega)]
                    cases is with
                    | nil => have e : y = -1 := hc; omega
                    | cons j js => obtain ⟨e, hj, _⟩ := hc; omega
end Go.Proofs.Ytlbachjhhjjmfaa.Mu
namespace Go.Proofs.Ytlbachjhhjjmfaa.Mu
open Go.ChangeShapes Go.WideShapes Go.ChangeAt Go.RowKit Go.Shelf

attribute [local go_sem] Oper.semAt_some

/-- The way back from an inequality: what raised its L, and so on, till something that nothing raised. -/
def Way (xs : List Iq) (B : List Int) : Nat → List Nat → Prop
  | i, [] => ∃ x, xs[i]? = some x ∧ (x.m ≠ 0 ∨ (x.m = 0 ∧ 0 ≤ x.v ∧ B[x.v.toNat]? = some (-2)))
  | i, j :: ws => ∃ x, xs[i]? = some x ∧ x.m = 0 ∧ 0 ≤ x.v ∧ B[x.v.toNat]? = some (j : Int) ∧ Way xs B j ws
theorem own_ge {w : World} {base e size n : Nat} {v : Value} {xs : List Value} (h : w.ownsRow base e size v n xs) {k : Nat} (hk : v.ownBlock = some k) : base ≤ k := by
  rcases h.2 with ⟨rfl, _⟩ | ⟨g, cap, cur, rfl, hb, _⟩
  · cases hk
  · cases hk; exact hb
def lenV : Value → Nat
  | .slice _ n _ => n
  | _ => 0
def ints (ws : List Nat) : List Int := ws.map fun (i : Nat) => (i : Int)

def CorePost (L : Nat) (ws : List Nat) (w : World) (e : Ending) (w' : World) : Prop :=
  ∃ A c, e = .returned (.slice A L c) ∧ w'.ownsRow w.heap.size 3 1 (.slice A L c) L (((ints ws).mergeSort fun x y => decide (x ≤ y)).map (Value.int .i64)) ∧ Bel w w'

set_option maxRecDepth 100000 in
set_option maxHeartbeats 2000000 in
theorem core_any (k : BkH) (xs : List Iq) (F N G B Q : List Int) (i0 : Nat) (ws0 : List Nat) (hl : k.len ≤ 1048576) (hn : k.n ≤ 1048576) (hL : ws0.length ≤ 1048576) (hw : Way xs B i0 ws0) (w : World) (h : St w k xs F N G B Q) :
    Calls Try.prog 47 #[.pointer (some ⟨k.s, 0, none⟩), .int .i64 i0] w (CorePost (ws0.length + 1) (i0 :: ws0) w) := by
  have HS := Lib.hid h
  have HW := Lib.hid hw
  have HLX := Lib.hid h.q.len
  have HL := Lib.hid hl
  have HN := Lib.hid hn
  clear h hw
  go_enter Try.func47, Try.ntmps47
  go_wp2_with fail
  have hown0 : (w.alloc (.cells #[.int .i64 i0] 3)).ownsRow w.heap.size 3 1 (.slice (some ⟨w.heap.size, 0, none⟩) 1 1) 1 ([(i0 : Int)].map (Value.int .i64)) := World.ownsRow_lit w #[.int .i64 i0] 1 (Nat.le_refl _) (by unfold maxLen; omega) rfl
  have HO0 := Lib.hid hown0
  clear hown0
  go_loopw [1, 5] (fun iv way wr => ∃ (i : Nat) (ws : List Nat) (A : Option Addr) (c : Nat) (dn : List Int), iv = .int .i64 (i : Int) ∧ way = .slice A dn.length c ∧ Hid (Way xs B i ws) ∧ Hid (dn ++ ints ws = ints (i0 :: ws0)) ∧ Hid (wr.ownsRow w.heap.size 3 1 (.slice A dn.length c) dn.length (dn.map (Value.int .i64))) ∧ Hid (Bel w wr))
    (fun _ way _ => ws0.length + 2 - lenV way)
  case atStart => exact ⟨i0, ws0, _, _, [(i0 : Int)], rfl, rfl, HW, Lib.hid rfl, HO0, Lib.hid ((Bel.refl w).alloc _)⟩
  case round =>
    obtain ⟨i, ws, A, c, dn, rfl, rfl, HWY, HD, HO, HB⟩ := hrel
    have HS1 := Lib.hid (HS.out.bel HB.out)
    obtain ⟨x, hx⟩ : ∃ x, xs[i]? = some x := by
      have := HWY.out
      cases ws with
      | nil => obtain ⟨x, hx, _⟩ := this; exact ⟨x, hx⟩
      | cons j js => obtain ⟨x, hx, _⟩ := this; exact ⟨x, hx⟩
    have hi : i < k.len := by rw [HLX.out]; exact (List.getElem?_eq_some_iff.1 hx).1
    obtain ⟨qb, qo, eA, qlt, qc⟩ := HS1.out.q.at_ (by omega)
    obtain ⟨c0, c1, c2, c3⟩ := qc i x hx
    have q0 : wr.cell? ⟨k.s, 0, none⟩ = some (.slice (some ⟨qb, qo, none⟩) k.len k.cap) := by rw [← eA]; simp [World.cell?, HS1.out.sol.hs, cellsS]
    have i1 : (0 : Int) ≤ (i : Int) := by omega
    have i2 : (i : Int) < (k.len : Int) := by omega
    have HX := Lib.hid hx
    have HQB : Hid (qb < wr.heap.size) := Lib.hid (Nat.lt_of_lt_of_le qlt HS1.out.sz)
    clear qc hx eA qlt
    by_cases hm : x.m = 0
    · have hb0 : (x.m == 0) = true := by simpa using hm
      have HHL : Hid (∀ W, Calls Try.prog 68 #[.agg #[.int .i64 x.v, .int .u8 x.m, .int .u8 x.c, .int .i64 x.r]] W fun e w' => e = .returned (.bool true) ∧ Bel W w') := Lib.hid fun W => by have h := hasLeft_any x W; rw [hb0] at h; exact h
      have HM := Lib.hid hm
      clear hb0 hm
      go_wp2_with fail
      refine (HHL.out _).mono ?_
      rintro e w2 ⟨rfl, hb2⟩
      have hB2 := HB.out.on hb2
      have HB2 := Lib.hid hB2
      have HS2 := Lib.hid (HS.out.bel hB2)
      have HO2 := Lib.hid (owns_bel HO.out hb2)
      obtain ⟨qb', qo', eA', qlt', qc'⟩ := HS2.out.q.at_ (by omega)
      obtain ⟨d0, d1, d2, d3⟩ := qc' i x HX.out
      have r0 : w2.cell? ⟨k.s, 0, none⟩ = some (.slice (some ⟨qb', qo', none⟩) k.len k.cap) := by rw [← eA']; simp [World.cell?, HS2.out.sol.hs, cellsS]
      have r4 : w2.cell? ⟨k.s, 4, none⟩ = some (.slice (some ⟨k.gb, 0, none⟩) k.n k.n) := by simp [World.cell?, HS2.out.sol.hs, cellsS]
      clear hb2 hB2 qc' eA' qlt' c0 c1 c2 c3 q0
      obtain ⟨hv0, b, hbv, hcase⟩ : 0 ≤ x.v ∧ ∃ b : Int, B[x.v.toNat]? = some b ∧ ((b = -2 ∧ ws = []) ∨ ∃ (j : Nat) (js : List Nat), b = j ∧ ws = j :: js ∧ Way xs B j js) := by
        have hw := HWY.out
        have hx := HX.out
        cases ws with
        | nil =>
          obtain ⟨y, hy, hh⟩ := hw
          rw [hx] at hy; cases hy
          rcases hh with hh | ⟨_, h0, h2⟩
          · exact absurd HM.out hh
          · exact ⟨h0, _, h2, .inl ⟨rfl, rfl⟩⟩
        | cons j js =>
          obtain ⟨y, hy, _, h0, h2, h3⟩ := hw
          rw [hx] at hy; cases hy
          exact ⟨h0, _, h2, .inr ⟨j, js, rfl, rfl, h3⟩⟩
      have hvn : x.v < (k.n : Int) := by
        have h1 := (List.getElem?_eq_some_iff.1 hbv).1
        have h2 := HS2.out.lb
        omega
      have qB := HS2.out.sol.hb.cell (j := x.v.toNat) (by have := HS2.out.lb; omega)
      rw [hbv, Option.getD_some] at qB
      have HCS := Lib.hid hcase
      clear hcase hbv
      go_wp2_with fail
      go_region
      clear d0 d1 d2 d3 r0 r4 qB
      rcases HCS.out with ⟨rfl, rfl⟩ | ⟨j, js, rfl, rfl, hwj⟩
      · go_wp2_with fail
        have hd := HD.out
        simp only [ints, List.map_nil, List.append_nil] at hd
        have hdl : dn.length = ws0.length + 1 := by rw [hd]; simp
        have HDD := Lib.hid hd
        clear hd
        refine (sort_any _ _ _ _ dn _ (owns_bel HO2.out (Bel.refl w2).drew) (by omega)).mono ?_
        rintro e w3 ⟨rfl, hs3, hg3⟩
        have HS3 := Lib.hid hs3
        have HB3 := Lib.hid (HB2.out.drew.grown hg3 HB2.out.size (fun k hk => own_ge HO2.out hk))
        clear hs3 hg3
        go_wp2
        go_ret
        have h3 := HS3.out
        have hf := HB3.out
        rw [hdl] at h3
        rw [HDD.out] at h3
        exact ⟨_, _, rfl, h3, hf⟩
      · have HWJ := Lib.hid hwj
        clear hwj
        have n1 : ¬ ((j : Int) = -2) := by omega
        have hbb : Bel w2 (w2.drew.alloc (.cells #[.int .i64 j] 3)) := (Bel.refl w2).drew.alloc _
        have HO3 := Lib.hid (owns_bel HO2.out hbb)
        have HB3 := Lib.hid (HB2.out.on hbb)
        have HRI := Lib.hid (ri_one w2.drew j)
        have hdl : dn.length + 1 ≤ 1000000000 := by
          have h := congrArg List.length HD.out
          simp [ints] at h
          omega
        have hdl2 : dn.length < ws0.length + 1 := by
          have h := congrArg List.length HD.out
          simp [ints] at h
          omega
        clear hbb
        go_wp2_with (at_builtin; refine wpList_append_ri rfl _ _ 22 rfl w.heap.size 3 Try.underlying22 info_int A dn.length c dn rfl HO3.out _ _ 1 1 [(j : Int)] rfl HRI.out hdl HB3.out.size ?_; intro V3 cv3 w3 hown3 hg3)
        have hlen : dn.length + 1 = (dn ++ [(j : Int)]).length := by simp
        have HO4 : Hid (w3.ownsRow w.heap.size 3 1 (.slice V3 (dn ++ [(j : Int)]).length cv3) (dn ++ [(j : Int)]).length ((dn ++ [(j : Int)]).map (Value.int .i64))) := Lib.hid (by rw [← hlen]; exact hown3)
        have HB4 := Lib.hid (HB3.out.grown hg3 HB3.out.size (fun k hk => own_ge HO3.out hk))
        clear hown3 hg3
        go_roundw
        case rel => exact ⟨j, js, V3, cv3, dn ++ [(j : Int)], rfl, by simp, HWJ, Lib.hid (by have h := HD.out; simpa [ints] using h), HO4, HB4⟩
        case measure => simp [lenV]; omega
    · have hb0 : (x.m == 0) = false := by simpa using hm
      have HHL : Hid (∀ W, Calls Try.prog 68 #[.agg #[.int .i64 x.v, .int .u8 x.m, .int .u8 x.c, .int .i64 x.r]] W fun e w' => e = .returned (.bool false) ∧ Bel W w') := Lib.hid fun W => by have h := hasLeft_any x W; rw [hb0] at h; exact h
      have HM := Lib.hid hm
      clear hb0 hm
      go_wp2_with fail
      refine (HHL.out _).mono ?_
      rintro e w2 ⟨rfl, hb2⟩
      have HB2 := Lib.hid (HB.out.on hb2)
      have HO2 := Lib.hid (owns_bel HO.out hb2)
      clear hb2
      have hws : ws = [] := by
        have hw := HWY.out
        cases ws with
        | nil => rfl
        | cons j js =>
          obtain ⟨y, hy, hh, _⟩ := hw
          rw [HX.out] at hy; cases hy
          exact absurd hh HM.out
      subst hws
      go_wp2_with fail
      have hd := HD.out
      simp only [ints, List.map_nil, List.append_nil] at hd
      have hdl : dn.length = ws0.length + 1 := by rw [hd]; simp
      have HDD := Lib.hid hd
      clear hd
      refine (sort_any _ _ _ _ dn _ HO2.out (by omega)).mono ?_
      rintro e w3 ⟨rfl, hs3, hg3⟩
      have HS3 := Lib.hid hs3
      have HB3 := Lib.hid (HB2.out.grown hg3 HB2.out.size (fun k hk => own_ge HO2.out hk))
      clear hs3 hg3
      go_wp2
      go_ret
      have h3 := HS3.out
      have hf := HB3.out
      rw [hdl] at h3
      rw [HDD.out] at h3
      exact ⟨_, _, rfl, h3, hf⟩
end Go.Proofs.Ytlbachjhhjjmfaa.Mu

