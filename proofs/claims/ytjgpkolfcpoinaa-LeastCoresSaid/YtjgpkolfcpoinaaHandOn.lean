/-
  A solver in memory; handOn.
-/
import Derived.Test.YtjgpkolfcpoinaaNewS
import Derived.Test.YtjgpkolfcpoinaaComm
namespace Go.Proofs.Ytjgpkolfcpoinaa.Mu
set_option linter.unusedSimpArgs false
open Go.ChangeShapes Go.WideShapes Go.ChangeAt Go.RowKit Go.Shelf

attribute [local go_sem] Oper.semAt_some

/-- Where a solver lies. -/
structure Bk where
  base : Nat
  s : Nat
  gf : Nat
  gn : Nat
  ga : Nat
  gb : Nat
  gc : Nat
  A : Option Addr
  len : Nat
  cap : Nat
  n : Nat
/-- What a channel of integers holds. -/
def encZ (Q : List Int) : Array Value := (Q.map (Value.int .i64)).toArray
theorem encZ_push (Q : List Int) (v : Int) : (encZ Q).push (.int .i64 v) = encZ (Q ++ [v]) := by simp [encZ]
theorem encZ_head (v : Int) (Q : List Int) : (encZ (v :: Q)).getD 0 undef = .int .i64 v := rfl
theorem encZ_tail (v : Int) (Q : List Int) : (encZ (v :: Q)).extract 1 (encZ (v :: Q)).size = encZ Q := by
  apply Array.ext'
  simp [encZ]
  exact List.take_of_length_le (by simp)
theorem encZ_size (Q : List Int) : (encZ Q).size = Q.length := by simp [encZ]
/-- A solver, as it lies in memory. -/
structure St (w : World) (k : Bk) (xs : List Iq) (F N G B Q : List Int) : Prop where
  d : Dist k.base k.s k.gf k.gn k.ga k.gb k.gc
  sol : Sol w k.s k.gf k.gn k.ga k.gb k.gc k.A k.len k.cap k.n F N G B
  ch : ∃ sq rq, w.heap[k.gc]? = some (.chan k.n (encZ Q) false sq rq false)
  q : RQ w k.base k.A k.len xs
  lf : F.length = k.n
  ln : N.length = k.len
  lg : G.length = k.n
  lb : B.length = k.n
theorem setChan_far (w : World) {c c' : Nat} (cap : Nat) (buf : Array Value) (cl : Bool) (s r : Nat) (tm : Bool) (h : c ≠ c') : (w.setChan c cap buf cl s r tm).heap[c']? = w.heap[c']? := by
  simp [World.setChan, Array.getElem?_setIfInBounds_ne h]
section
variable {w w' : World} {k : Bk} {xs : List Iq} {F N G B Q : List Int}
theorem St.sz (h : St w k xs F N G B Q) : k.base ≤ w.heap.size := Nat.le_trans h.d.1.1 (Nat.le_of_lt (blk_lt h.sol.hs))
theorem St.bel (h : St w k xs F N G B Q) (hb : Bel w w') : St w' k xs F N G B Q :=
  ⟨h.d, ⟨hb.blk h.sol.hs, h.sol.hf.bel hb, h.sol.hn.bel hb, h.sol.ha.bel hb, h.sol.hb.bel hb⟩, let ⟨a, b, e⟩ := h.ch; ⟨a, b, hb.blk e⟩, h.q.keep fun b o hlt => hb.cell (p := ⟨b, o, none⟩) (show b < w.heap.size from Nat.lt_of_lt_of_le hlt h.sz), h.lf, h.ln, h.lg, h.lb⟩
theorem St.drew (h : St w k xs F N G B Q) : St w.drew k xs F N G B Q := ⟨h.d, ⟨h.sol.hs, h.sol.hf, h.sol.hn, h.sol.ha, h.sol.hb⟩, h.ch, h.q, h.lf, h.ln, h.lg, h.lb⟩
theorem St.setB (h : St w k xs F N G B Q) (j : Nat) (x : Int) : St (w.setCell ⟨k.gb, j, none⟩ (.int .i64 x)) k xs F N G (B.set j x) Q := by
  obtain ⟨⟨l1, l2, l3, l4, l5, l6⟩, ⟨d1, d2, d3, d4, d5⟩, ⟨d6, d7, d8, d9⟩, ⟨d10, d11, d12⟩, ⟨d13, d14⟩, d15⟩ := h.d
  refine ⟨h.d, ⟨blk_off h.sol.hs (fun e => d4 e.symm) _, h.sol.hf.off (fun e => d8 e.symm) _, h.sol.hn.off (fun e => d11 e.symm) _, h.sol.ha.off (fun e => d13 e.symm) _, h.sol.hb.set_ _ _⟩, ?_, h.q.keep fun b o hlt => ?_, h.lf, h.ln, h.lg, by simp [h.lb]⟩
  · obtain ⟨a, b, e⟩ := h.ch
    exact ⟨a, b, blk_off e d15 _⟩
  · exact World.cell?_setCell_far _ _ _ _ (fun e => by dsimp only at e; omega)
theorem St.setG (h : St w k xs F N G B Q) (j : Nat) (x : Int) : St (w.setCell ⟨k.ga, j, none⟩ (.int .u8 x)) k xs F N (G.set j x) B Q := by
  obtain ⟨⟨l1, l2, l3, l4, l5, l6⟩, ⟨d1, d2, d3, d4, d5⟩, ⟨d6, d7, d8, d9⟩, ⟨d10, d11, d12⟩, ⟨d13, d14⟩, d15⟩ := h.d
  refine ⟨h.d, ⟨blk_off h.sol.hs (fun e => d3 e.symm) _, h.sol.hf.off (fun e => d7 e.symm) _, h.sol.hn.off (fun e => d10 e.symm) _, h.sol.ha.set_ _ _, h.sol.hb.off d13 _⟩, ?_, h.q.keep fun b o hlt => ?_, h.lf, h.ln, by simp [h.lg], h.lb⟩
  · obtain ⟨a, b, e⟩ := h.ch
    exact ⟨a, b, blk_off e d14 _⟩
  · exact World.cell?_setCell_far _ _ _ _ (fun e => by dsimp only at e; omega)
theorem St.chan (h : St w k xs F N G B Q) (Q' : List Int) (a b : Nat) : St (w.setChan k.gc k.n (encZ Q') false a b false) k xs F N G B Q' := by
  obtain ⟨⟨l1, l2, l3, l4, l5, l6⟩, ⟨d1, d2, d3, d4, d5⟩, ⟨d6, d7, d8, d9⟩, ⟨d10, d11, d12⟩, ⟨d13, d14⟩, d15⟩ := h.d
  obtain ⟨s0, r0, e0⟩ := h.ch
  have far : ∀ g o, w.heap[g]? = some o → k.gc ≠ g → (w.setChan k.gc k.n (encZ Q') false a b false).heap[g]? = some o := fun g o ho hne => (setChan_far _ _ _ _ _ _ _ hne).trans ho
  refine ⟨h.d, ⟨far _ _ h.sol.hs (fun e => d5 e.symm), far _ _ h.sol.hf (fun e => d9 e.symm), far _ _ h.sol.hn (fun e => d12 e.symm), far _ _ h.sol.ha (fun e => d14 e.symm), far _ _ h.sol.hb (fun e => d15 e.symm)⟩, ⟨a, b, Conc.heap_setChan _ _ _ _ _ _ _ _ (blk_lt e0)⟩, h.q.keep fun x o hlt => ?_, h.lf, h.ln, h.lg, h.lb⟩
  have := setChan_far w k.n (encZ Q') false a b false (c := k.gc) (c' := x) (by omega)
  simp only [World.cell?, this]
end

/-- What handOn answers, and what it leaves. -/
def handF (B Q : List Int) (x : Iq) (m : Int) (i : Nat) : Bool × List Int × List Int :=
  if m ≤ x.c then (true, B, Q) else if x.r = -1 then (false, B, Q) else if B[x.r.toNat]?.getD 0 = -1 then (true, B.set x.r.toNat i, Q ++ [x.r]) else (true, B, Q)
def HandPost (k : Bk) (xs : List Iq) (F N G B Q : List Int) (x : Iq) (m : Int) (i : Nat) (w : World) (e : Ending) (w' : World) : Prop :=
  e = .returned (.bool (handF B Q x m i).1) ∧ St w' k xs F N G (handF B Q x m i).2.1 (handF B Q x m i).2.2 ∧ Below k.base w w'

set_option maxRecDepth 100000 in
set_option maxHeartbeats 4000000 in
theorem handOn_any (k : Bk) (xs : List Iq) (F N G B Q : List Int) (i : Nat) (m : Int) (x : Iq) (hx : xs[i]? = some x) (hl : k.len ≤ 1048576) (hn : k.n ≤ 1048576) (hr : x.r = -1 ∨ 0 ≤ x.r ∧ x.r < k.n) (hroom : B[x.r.toNat]?.getD 0 = -1 → Q.length < k.n) (w : World) (h : St w k xs F N G B Q) :
    Calls Try.prog 65 #[.pointer (some ⟨k.s, 0, none⟩), .int .i64 i, .int .u8 m] w (HandPost k xs F N G B Q x m i w) := by
  have HB0 : Hid (Below k.base w w) := Lib.hid (Below.refl _ _)
  have HS := Lib.hid h
  have HLN := Lib.hid h.q.len
  have hi : i < k.len := by
    have := (List.getElem?_eq_some_iff.1 hx).1
    have := h.q.len
    omega
  have HI := Lib.hid hi
  obtain ⟨qb, qo, eA, qlt, qc⟩ := h.q.at_ (by omega)
  obtain ⟨c0, c1, c2, c3⟩ := qc i x hx
  have q0 : w.cell? ⟨k.s, 0, none⟩ = some (.slice (some ⟨qb, qo, none⟩) k.len k.cap) := by rw [← eA]; simp [World.cell?, h.sol.hs, cellsS]
  have i1 : (0 : Int) ≤ (i : Int) := by omega
  have i2 : (i : Int) < (k.len : Int) := by omega
  have HW1 : Hid (St ((w.alloc (.cells #[.int .i64 x.v, .int .u8 x.m, .int .u8 x.c, .int .i64 x.r] 31))) k xs F N G B Q) := Lib.hid (h.bel ((Bel.refl w).alloc _))
  have HBW1 : Hid (Below k.base w (w.alloc (.cells #[.int .i64 x.v, .int .u8 x.m, .int .u8 x.c, .int .i64 x.r] 31))) := Lib.hid (Below.mono ((Bel.refl w).alloc _) h.sz)
  have HR := Lib.hid hr
  have HX := Lib.hid hx
  have HRO := Lib.hid hroom
  have HN := Lib.hid hn
  have HL := Lib.hid hl
  clear h hx hi qc hr hroom hn hl eA qlt
  unfold HandPost
  by_cases h1 : m ≤ x.c
  · have hF : handF B Q x m i = (true, B, Q) := by simp [handF, h1]
    rw [hF]
    clear hF
    go_enter Try.func65, Try.ntmps65
    go_wp2
    go_ret
    exact ⟨rfl, HW1.out, HBW1.out⟩
  · by_cases h2 : x.r = -1
    · have hF : handF B Q x m i = (false, B, Q) := by simp [handF, h1, h2]
      rw [hF]
      clear hF
      go_enter Try.func65, Try.ntmps65
      go_wp2
      go_ret
      have hw := HW1.out
      have hb := HBW1.out
      rw [h2] at hw hb
      exact ⟨rfl, hw, hb⟩
    · obtain ⟨r0, r1⟩ := HR.out.resolve_left h2
      have HXB := Lib.hid (blk1 w (.cells #[.int .i64 x.v, .int .u8 x.m, .int .u8 x.c, .int .i64 x.r] 31))
      have HGB : Hid (k.gb < w.heap.size) := Lib.hid HS.out.sol.hb.lt
      obtain ⟨w1, hw1⟩ : ∃ w1, w1 = w.alloc (.cells #[.int .i64 x.v, .int .u8 x.m, .int .u8 x.c, .int .i64 x.r] 31) := ⟨_, rfl⟩
      have HW := Lib.hid hw1
      rw [← hw1] at HW1 HBW1 HXB
      have qx := (cells4 HXB.out).2.2.2
      have q4 : w1.cell? ⟨k.s, 4, none⟩ = some (.slice (some ⟨k.gb, 0, none⟩) k.n k.n) := by simp [World.cell?, HW1.out.sol.hs, cellsS]
      have qB := HW1.out.sol.hb.cell (j := x.r.toNat) (by have := HW1.out.lb; omega)
      have qF := HW1.out.sol.hb.frozen x.r.toNat
      clear hw1
      by_cases h3 : B[x.r.toNat]?.getD 0 = -1
      · have hF : handF B Q x m i = (true, B.set x.r.toNat i, Q ++ [x.r]) := by simp [handF, h1, h2, h3]
        rw [hF]
        clear hF
        rw [h3] at qB
        have hne : w.heap.size ≠ k.gb := fun e => by have := HGB.out; omega
        have hs2 := (HW1.out.setB x.r.toNat i).drew.drew.drew
        obtain ⟨sq, rq, hch⟩ := hs2.ch
        have HS2 := Lib.hid hs2
        have HCH := Lib.hid hch
        have HRM : Hid ((encZ Q).size < k.n) := Lib.hid (by rw [encZ_size]; exact HRO.out h3)
        have HFIN : Hid (St ((w1.setCell ⟨k.gb, x.r.toNat, none⟩ (.int .i64 i)).drew.drew.drew.setChan k.gc k.n ((encZ Q).push (.int .i64 x.r)) false (sq + 1) rq false) k xs F N G (B.set x.r.toNat i) (Q ++ [x.r])) := Lib.hid (by rw [encZ_push]; exact hs2.chan _ _ _)
        have HBB : Hid (Below k.base w ((w1.setCell ⟨k.gb, x.r.toNat, none⟩ (.int .i64 i)).drew.drew.drew.setChan k.gc k.n ((encZ Q).push (.int .i64 x.r)) false (sq + 1) rq false)) := Lib.hid (by
          have hb := HBW1.out.setCell (p := ⟨k.gb, x.r.toNat, none⟩) HS2.out.d.1.2.2.2.2.1 (.int .i64 i)
          exact Conc.below_setChan (a := w) (w := (w1.setCell ⟨k.gb, x.r.toNat, none⟩ (.int .i64 i)).drew.drew.drew) ⟨hb.os, hb.tape, hb.output, hb.size, hb.block⟩ HS2.out.d.1.2.2.2.2.2 _ _ _ _ _ _)
        have r5 : (w1.setCell ⟨k.gb, x.r.toNat, none⟩ (.int .i64 i)).drew.drew.drew.cell? ⟨k.s, 5, none⟩ = some (.chan (some k.gc)) := by simp [World.cell?, HS2.out.sol.hs, cellsS]
        have rx : (w1.setCell ⟨k.gb, x.r.toNat, none⟩ (.int .i64 i)).drew.drew.drew.cell? ⟨w.heap.size, 3, none⟩ = some (.int .i64 x.r) := (World.cell?_setCell_far _ _ _ _ hne.symm).trans qx
        clear hs2 hch hne h3
        go_enter Try.func65, Try.ntmps65
        go_wp2_with fail
        rw [← HW.out]
        go_region
        go_wp2_with fail
        go_region
        go_wp2_with fail
        refine wp_region_anyR (by kernel_rfl) ?_
        change anyR _ _ _ _ _ _ _ (World.drew _)
        refine anyR_ready [0, 4] (by kernel_rfl) (by simp) ?_
        (refine AllR.cons (TakesR.pure (v := ?_) rfl rfl ?_ ?_) ?_; rotate_left; · (go_simp; all_goals with_reducible rfl))
        · (try simp only [Act.put, List.setIfInBounds_toArray, List.set_cons_zero, List.set_cons_succ])
          refine anyR_ready [1, 4] (by kernel_rfl) (by simp) ?_
          (refine AllR.cons (TakesR.pure (v := ?_) rfl rfl ?_ ?_) ?_; rotate_left; · (go_simp; all_goals with_reducible rfl))
          · (try simp only [Act.put, List.setIfInBounds_toArray, List.set_cons_zero, List.set_cons_succ])
            refine anyR_ready [2, 4] (by kernel_rfl) (by simp) ?_
            (refine AllR.cons (TakesR.pure (v := ?_) rfl rfl ?_ ?_) ?_; rotate_left; · (go_simp; all_goals with_reducible rfl))
            · (try simp only [Act.put, List.setIfInBounds_toArray, List.set_cons_zero, List.set_cons_succ])
              refine anyR_ready [3, 4] (by kernel_rfl) (by simp) ?_
              (refine AllR.cons (TakesR.pure (v := ?_) rfl rfl ?_ ?_) ?_; rotate_left; · (go_simp; all_goals with_reducible rfl))
              · (try simp only [Act.put, List.setIfInBounds_toArray, List.set_cons_zero, List.set_cons_succ])
                refine anyR_ready [4] (by kernel_rfl) (by simp) ?_
                (refine AllR.cons (TakesR.pure (v := ?_) rfl rfl ?_ ?_) ?_; rotate_left; · (go_simp; all_goals with_reducible rfl))
                · (try simp only [Act.put, List.setIfInBounds_toArray, List.set_cons_zero, List.set_cons_succ])
                  refine anyR_ready [5] (by kernel_rfl) (by simp) ?_
                  (refine AllR.cons (TakesR.pure (v := ?_) rfl rfl ?_ ?_) ?_; rotate_left; · (go_simp; all_goals with_reducible rfl))
                  · (try simp only [Act.put, List.setIfInBounds_toArray, List.set_cons_zero, List.set_cons_succ])
                    refine anyR_ready [6] (by kernel_rfl) (by simp) ?_
                    refine AllR.cons (TakesR.send (x := .tmp 42) (y := .tmp 44) (c := k.gc) (cap := k.n) (buf := encZ Q) (v := .int .i64 x.r) rfl rfl rfl (by go_simp) (by go_simp) HCH.out HRM.out ?_) AllR.nil
                    refine anyR_done (by kernel_rfl) ?_ _
                    ((try simp only [Act.put, List.setIfInBounds_toArray, List.set_cons_zero, List.set_cons_succ]); go_wp2; go_ret; exact ⟨rfl, HFIN.out, HBB.out⟩)
                  exact AllR.nil
                exact AllR.nil
              (refine AllR.cons (TakesR.pure (v := ?_) rfl rfl ?_ ?_) ?_; rotate_left; · (go_simp; all_goals with_reducible rfl))
              · (try simp only [Act.put, List.setIfInBounds_toArray, List.set_cons_zero, List.set_cons_succ])
                refine anyR_ready [3, 5] (by kernel_rfl) (by simp) ?_
                (refine AllR.cons (TakesR.pure (v := ?_) rfl rfl ?_ ?_) ?_; rotate_left; · (go_simp; all_goals with_reducible rfl))
                · (try simp only [Act.put, List.setIfInBounds_toArray, List.set_cons_zero, List.set_cons_succ])
                  refine anyR_ready [5] (by kernel_rfl) (by simp) ?_
                  (refine AllR.cons (TakesR.pure (v := ?_) rfl rfl ?_ ?_) ?_; rotate_left; · (go_simp; all_goals with_reducible rfl))
                  · (try simp only [Act.put, List.setIfInBounds_toArray, List.set_cons_zero, List.set_cons_succ])
                    refine anyR_ready [6] (by kernel_rfl) (by simp) ?_
                    refine AllR.cons (TakesR.send (x := .tmp 42) (y := .tmp 44) (c := k.gc) (cap := k.n) (buf := encZ Q) (v := .int .i64 x.r) rfl rfl rfl (by go_simp) (by go_simp) HCH.out HRM.out ?_) AllR.nil
                    refine anyR_done (by kernel_rfl) ?_ _
                    ((try simp only [Act.put, List.setIfInBounds_toArray, List.set_cons_zero, List.set_cons_succ]); go_wp2; go_ret; exact ⟨rfl, HFIN.out, HBB.out⟩)
                  exact AllR.nil
                (refine AllR.cons (TakesR.pure (v := ?_) rfl rfl ?_ ?_) ?_; rotate_left; · (go_simp; all_goals with_reducible rfl))
                · (try simp only [Act.put, List.setIfInBounds_toArray, List.set_cons_zero, List.set_cons_succ])
                  refine anyR_ready [3] (by kernel_rfl) (by simp) ?_
                  (refine AllR.cons (TakesR.pure (v := ?_) rfl rfl ?_ ?_) ?_; rotate_left; · (go_simp; all_goals with_reducible rfl))
                  · (try simp only [Act.put, List.setIfInBounds_toArray, List.set_cons_zero, List.set_cons_succ])
                    refine anyR_ready [6] (by kernel_rfl) (by simp) ?_
                    refine AllR.cons (TakesR.send (x := .tmp 42) (y := .tmp 44) (c := k.gc) (cap := k.n) (buf := encZ Q) (v := .int .i64 x.r) rfl rfl rfl (by go_simp) (by go_simp) HCH.out HRM.out ?_) AllR.nil
                    refine anyR_done (by kernel_rfl) ?_ _
                    ((try simp only [Act.put, List.setIfInBounds_toArray, List.set_cons_zero, List.set_cons_succ]); go_wp2; go_ret; exact ⟨rfl, HFIN.out, HBB.out⟩)
                  exact AllR.nil
                exact AllR.nil
              exact AllR.nil
            (refine AllR.cons (TakesR.pure (v := ?_) rfl rfl ?_ ?_) ?_; rotate_left; · (go_simp; all_goals with_reducible rfl))
            · (try simp only [Act.put, List.setIfInBounds_toArray, List.set_cons_zero, List.set_cons_succ])
              refine anyR_ready [2, 5] (by kernel_rfl) (by simp) ?_
              (refine AllR.cons (TakesR.pure (v := ?_) rfl rfl ?_ ?_) ?_; rotate_left; · (go_simp; all_goals with_reducible rfl))
              · (try simp only [Act.put, List.setIfInBounds_toArray, List.set_cons_zero, List.set_cons_succ])
                refine anyR_ready [3, 5] (by kernel_rfl) (by simp) ?_
                (refine AllR.cons (TakesR.pure (v := ?_) rfl rfl ?_ ?_) ?_; rotate_left; · (go_simp; all_goals with_reducible rfl))
                · (try simp only [Act.put, List.setIfInBounds_toArray, List.set_cons_zero, List.set_cons_succ])
                  refine anyR_ready [5] (by kernel_rfl) (by simp) ?_
                  (refine AllR.cons (TakesR.pure (v := ?_) rfl rfl ?_ ?_) ?_; rotate_left; · (go_simp; all_goals with_reducible rfl))
                  · (try simp only [Act.put, List.setIfInBounds_toArray, List.set_cons_zero, List.set_cons_succ])
                    refine anyR_ready [6] (by kernel_rfl) (by simp) ?_
                    refine AllR.cons (TakesR.send (x := .tmp 42) (y := .tmp 44) (c := k.gc) (cap := k.n) (buf := encZ Q) (v := .int .i64 x.r) rfl rfl rfl (by go_simp) (by go_simp) HCH.out HRM.out ?_) AllR.nil
                    refine anyR_done (by kernel_rfl) ?_ _
                    ((try simp only [Act.put, List.setIfInBounds_toArray, List.set_cons_zero, List.set_cons_succ]); go_wp2; go_ret; exact ⟨rfl, HFIN.out, HBB.out⟩)
                  exact AllR.nil
                (refine AllR.cons (TakesR.pure (v := ?_) rfl rfl ?_ ?_) ?_; rotate_left; · (go_simp; all_goals with_reducible rfl))
                · (try simp only [Act.put, List.setIfInBounds_toArray, List.set_cons_zero, List.set_cons_succ])
                  refine anyR_ready [3] (by kernel_rfl) (by simp) ?_
                  (refine AllR.cons (TakesR.pure (v := ?_) rfl rfl ?_ ?_) ?_; rotate_left; · (go_simp; all_goals with_reducible rfl))
                  · (try simp only [Act.put, List.setIfInBounds_toArray, List.set_cons_zero, List.set_cons_succ])
                    refine anyR_ready [6] (by kernel_rfl) (by simp) ?_
                    refine AllR.cons (TakesR.send (x := .tmp 42) (y := .tmp 44) (c := k.gc) (cap := k.n) (buf := encZ Q) (v := .int .i64 x.r) rfl rfl rfl (by go_simp) (by go_simp) HCH.out HRM.out ?_) AllR.nil
                    refine anyR_done (by kernel_rfl) ?_ _
                    ((try simp only [Act.put, List.setIfInBounds_toArray, List.set_cons_zero, List.set_cons_succ]); go_wp2; go_ret; exact ⟨rfl, HFIN.out, HBB.out⟩)
                  exact AllR.nil
                exact AllR.nil
              (refine AllR.cons (TakesR.pure (v := ?_) rfl rfl ?_ ?_) ?_; rotate_left; · (go_simp; all_goals with_reducible rfl))
              · (try simp only [Act.put, List.setIfInBounds_toArray, List.set_cons_zero, List.set_cons_succ])
                refine anyR_ready [2] (by kernel_rfl) (by simp) ?_
                (refine AllR.cons (TakesR.pure (v := ?_) rfl rfl ?_ ?_) ?_; rotate_left; · (go_simp; all_goals with_reducible rfl))
                · (try simp only [Act.put, List.setIfInBounds_toArray, List.set_cons_zero, List.set_cons_succ])
                  refine anyR_ready [3] (by kernel_rfl) (by simp) ?_
                  (refine AllR.cons (TakesR.pure (v := ?_) rfl rfl ?_ ?_) ?_; rotate_left; · (go_simp; all_goals with_reducible rfl))
                  · (try simp only [Act.put, List.setIfInBounds_toArray, List.set_cons_zero, List.set_cons_succ])
                    refine anyR_ready [6] (by kernel_rfl) (by simp) ?_
                    refine AllR.cons (TakesR.send (x := .tmp 42) (y := .tmp 44) (c := k.gc) (cap := k.n) (buf := encZ Q) (v := .int .i64 x.r) rfl rfl rfl (by go_simp) (by go_simp) HCH.out HRM.out ?_) AllR.nil
                    refine anyR_done (by kernel_rfl) ?_ _
                    ((try simp only [Act.put, List.setIfInBounds_toArray, List.set_cons_zero, List.set_cons_succ]); go_wp2; go_ret; exact ⟨rfl, HFIN.out, HBB.out⟩)
                  exact AllR.nil
                exact AllR.nil
              exact AllR.nil
            exact AllR.nil
          (refine AllR.cons (TakesR.pure (v := ?_) rfl rfl ?_ ?_) ?_; rotate_left; · (go_simp; all_goals with_reducible rfl))
          · (try simp only [Act.put, List.setIfInBounds_toArray, List.set_cons_zero, List.set_cons_succ])
            refine anyR_ready [1, 5] (by kernel_rfl) (by simp) ?_
            (refine AllR.cons (TakesR.pure (v := ?_) rfl rfl ?_ ?_) ?_; rotate_left; · (go_simp; all_goals with_reducible rfl))
            · (try simp only [Act.put, List.setIfInBounds_toArray, List.set_cons_zero, List.set_cons_succ])
              refine anyR_ready [2, 5] (by kernel_rfl) (by simp) ?_
              (refine AllR.cons (TakesR.pure (v := ?_) rfl rfl ?_ ?_) ?_; rotate_left; · (go_simp; all_goals with_reducible rfl))
              · (try simp only [Act.put, List.setIfInBounds_toArray, List.set_cons_zero, List.set_cons_succ])
                refine anyR_ready [3, 5] (by kernel_rfl) (by simp) ?_
                (refine AllR.cons (TakesR.pure (v := ?_) rfl rfl ?_ ?_) ?_; rotate_left; · (go_simp; all_goals with_reducible rfl))
                · (try simp only [Act.put, List.setIfInBounds_toArray, List.set_cons_zero, List.set_cons_succ])
                  refine anyR_ready [5] (by kernel_rfl) (by simp) ?_
                  (refine AllR.cons (TakesR.pure (v := ?_) rfl rfl ?_ ?_) ?_; rotate_left; · (go_simp; all_goals with_reducible rfl))
                  · (try simp only [Act.put, List.setIfInBounds_toArray, List.set_cons_zero, List.set_cons_succ])
                    refine anyR_ready [6] (by kernel_rfl) (by simp) ?_
                    refine AllR.cons (TakesR.send (x := .tmp 42) (y := .tmp 44) (c := k.gc) (cap := k.n) (buf := encZ Q) (v := .int .i64 x.r) rfl rfl rfl (by go_simp) (by go_simp) HCH.out HRM.out ?_) AllR.nil
                    refine anyR_done (by kernel_rfl) ?_ _
                    ((try simp only [Act.put, List.setIfInBounds_toArray, List.set_cons_zero, List.set_cons_succ]); go_wp2; go_ret; exact ⟨rfl, HFIN.out, HBB.out⟩)
                  exact AllR.nil
                (refine AllR.cons (TakesR.pure (v := ?_) rfl rfl ?_ ?_) ?_; rotate_left; · (go_simp; all_goals with_reducible rfl))
                · (try simp only [Act.put, List.setIfInBounds_toArray, List.set_cons_zero, List.set_cons_succ])
                  refine anyR_ready [3] (by kernel_rfl) (by simp) ?_
                  (refine AllR.cons (TakesR.pure (v := ?_) rfl rfl ?_ ?_) ?_; rotate_left; · (go_simp; all_goals with_reducible rfl))
                  · (try simp only [Act.put, List.setIfInBounds_toArray, List.set_cons_zero, List.set_cons_succ])
                    refine anyR_ready [6] (by kernel_rfl) (by simp) ?_
                    refine AllR.cons (TakesR.send (x := .tmp 42) (y := .tmp 44) (c := k.gc) (cap := k.n) (buf := encZ Q) (v := .int .i64 x.r) rfl rfl rfl (by go_simp) (by go_simp) HCH.out HRM.out ?_) AllR.nil
                    refine anyR_done (by kernel_rfl) ?_ _
                    ((try simp only [Act.put, List.setIfInBounds_toArray, List.set_cons_zero, List.set_cons_succ]); go_wp2; go_ret; exact ⟨rfl, HFIN.out, HBB.out⟩)
                  exact AllR.nil
                exact AllR.nil
              (refine AllR.cons (TakesR.pure (v := ?_) rfl rfl ?_ ?_) ?_; rotate_left; · (go_simp; all_goals with_reducible rfl))
              · (try simp only [Act.put, List.setIfInBounds_toArray, List.set_cons_zero, List.set_cons_succ])
                refine anyR_ready [2] (by kernel_rfl) (by simp) ?_
                (refine AllR.cons (TakesR.pure (v := ?_) rfl rfl ?_ ?_) ?_; rotate_left; · (go_simp; all_goals with_reducible rfl))
                · (try simp only [Act.put, List.setIfInBounds_toArray, List.set_cons_zero, List.set_cons_succ])
                  refine anyR_ready [3] (by kernel_rfl) (by simp) ?_
                  (refine AllR.cons (TakesR.pure (v := ?_) rfl rfl ?_ ?_) ?_; rotate_left; · (go_simp; all_goals with_reducible rfl))
                  · (try simp only [Act.put, List.setIfInBounds_toArray, List.set_cons_zero, List.set_cons_succ])
                    refine anyR_ready [6] (by kernel_rfl) (by simp) ?_
                    refine AllR.cons (TakesR.send (x := .tmp 42) (y := .tmp 44) (c := k.gc) (cap := k.n) (buf := encZ Q) (v := .int .i64 x.r) rfl rfl rfl (by go_simp) (by go_simp) HCH.out HRM.out ?_) AllR.nil
                    refine anyR_done (by kernel_rfl) ?_ _
                    ((try simp only [Act.put, List.setIfInBounds_toArray, List.set_cons_zero, List.set_cons_succ]); go_wp2; go_ret; exact ⟨rfl, HFIN.out, HBB.out⟩)
                  exact AllR.nil
                exact AllR.nil
              exact AllR.nil
            (refine AllR.cons (TakesR.pure (v := ?_) rfl rfl ?_ ?_) ?_; rotate_left; · (go_simp; all_goals with_reducible rfl))
            · (try simp only [Act.put, List.setIfInBounds_toArray, List.set_cons_zero, List.set_cons_succ])
              refine anyR_ready [1] (by kernel_rfl) (by simp) ?_
              (refine AllR.cons (TakesR.pure (v := ?_) rfl rfl ?_ ?_) ?_; rotate_left; · (go_simp; all_goals with_reducible rfl))
              · (try simp only [Act.put, List.setIfInBounds_toArray, List.set_cons_zero, List.set_cons_succ])
                refine anyR_ready [2] (by kernel_rfl) (by simp) ?_
                (refine AllR.cons (TakesR.pure (v := ?_) rfl rfl ?_ ?_) ?_; rotate_left; · (go_simp; all_goals with_reducible rfl))
                · (try simp only [Act.put, List.setIfInBounds_toArray, List.set_cons_zero, List.set_cons_succ])
                  refine anyR_ready [3] (by kernel_rfl) (by simp) ?_
                  (refine AllR.cons (TakesR.pure (v := ?_) rfl rfl ?_ ?_) ?_; rotate_left; · (go_simp; all_goals with_reducible rfl))
                  · (try simp only [Act.put, List.setIfInBounds_toArray, List.set_cons_zero, List.set_cons_succ])
                    refine anyR_ready [6] (by kernel_rfl) (by simp) ?_
                    refine AllR.cons (TakesR.send (x := .tmp 42) (y := .tmp 44) (c := k.gc) (cap := k.n) (buf := encZ Q) (v := .int .i64 x.r) rfl rfl rfl (by go_simp) (by go_simp) HCH.out HRM.out ?_) AllR.nil
                    refine anyR_done (by kernel_rfl) ?_ _
                    ((try simp only [Act.put, List.setIfInBounds_toArray, List.set_cons_zero, List.set_cons_succ]); go_wp2; go_ret; exact ⟨rfl, HFIN.out, HBB.out⟩)
                  exact AllR.nil
                exact AllR.nil
              exact AllR.nil
            exact AllR.nil
          exact AllR.nil
        (refine AllR.cons (TakesR.pure (v := ?_) rfl rfl ?_ ?_) ?_; rotate_left; · (go_simp; all_goals with_reducible rfl))
        · (try simp only [Act.put, List.setIfInBounds_toArray, List.set_cons_zero, List.set_cons_succ])
          refine anyR_ready [0, 5] (by kernel_rfl) (by simp) ?_
          (refine AllR.cons (TakesR.pure (v := ?_) rfl rfl ?_ ?_) ?_; rotate_left; · (go_simp; all_goals with_reducible rfl))
          · (try simp only [Act.put, List.setIfInBounds_toArray, List.set_cons_zero, List.set_cons_succ])
            refine anyR_ready [1, 5] (by kernel_rfl) (by simp) ?_
            (refine AllR.cons (TakesR.pure (v := ?_) rfl rfl ?_ ?_) ?_; rotate_left; · (go_simp; all_goals with_reducible rfl))
            · (try simp only [Act.put, List.setIfInBounds_toArray, List.set_cons_zero, List.set_cons_succ])
              refine anyR_ready [2, 5] (by kernel_rfl) (by simp) ?_
              (refine AllR.cons (TakesR.pure (v := ?_) rfl rfl ?_ ?_) ?_; rotate_left; · (go_simp; all_goals with_reducible rfl))
              · (try simp only [Act.put, List.setIfInBounds_toArray, List.set_cons_zero, List.set_cons_succ])
                refine anyR_ready [3, 5] (by kernel_rfl) (by simp) ?_
                (refine AllR.cons (TakesR.pure (v := ?_) rfl rfl ?_ ?_) ?_; rotate_left; · (go_simp; all_goals with_reducible rfl))
                · (try simp only [Act.put, List.setIfInBounds_toArray, List.set_cons_zero, List.set_cons_succ])
                  refine anyR_ready [5] (by kernel_rfl) (by simp) ?_
                  (refine AllR.cons (TakesR.pure (v := ?_) rfl rfl ?_ ?_) ?_; rotate_left; · (go_simp; all_goals with_reducible rfl))
                  · (try simp only [Act.put, List.setIfInBounds_toArray, List.set_cons_zero, List.set_cons_succ])
                    refine anyR_ready [6] (by kernel_rfl) (by simp) ?_
                    refine AllR.cons (TakesR.send (x := .tmp 42) (y := .tmp 44) (c := k.gc) (cap := k.n) (buf := encZ Q) (v := .int .i64 x.r) rfl rfl rfl (by go_simp) (by go_simp) HCH.out HRM.out ?_) AllR.nil
                    refine anyR_done (by kernel_rfl) ?_ _
                    ((try simp only [Act.put, List.setIfInBounds_toArray, List.set_cons_zero, List.set_cons_succ]); go_wp2; go_ret; exact ⟨rfl, HFIN.out, HBB.out⟩)
                  exact AllR.nil
                (refine AllR.cons (TakesR.pure (v := ?_) rfl rfl ?_ ?_) ?_; rotate_left; · (go_simp; all_goals with_reducible rfl))
                · (try simp only [Act.put, List.setIfInBounds_toArray, List.set_cons_zero, List.set_cons_succ])
                  refine anyR_ready [3] (by kernel_rfl) (by simp) ?_
                  (refine AllR.cons (TakesR.pure (v := ?_) rfl rfl ?_ ?_) ?_; rotate_left; · (go_simp; all_goals with_reducible rfl))
                  · (try simp only [Act.put, List.setIfInBounds_toArray, List.set_cons_zero, List.set_cons_succ])
                    refine anyR_ready [6] (by kernel_rfl) (by simp) ?_
                    refine AllR.cons (TakesR.send (x := .tmp 42) (y := .tmp 44) (c := k.gc) (cap := k.n) (buf := encZ Q) (v := .int .i64 x.r) rfl rfl rfl (by go_simp) (by go_simp) HCH.out HRM.out ?_) AllR.nil
                    refine anyR_done (by kernel_rfl) ?_ _
                    ((try simp only [Act.put, List.setIfInBounds_toArray, List.set_cons_zero, List.set_cons_succ]); go_wp2; go_ret; exact ⟨rfl, HFIN.out, HBB.out⟩)
                  exact AllR.nil
                exact AllR.nil
              (refine AllR.cons (TakesR.pure (v := ?_) rfl rfl ?_ ?_) ?_; rotate_left; · (go_simp; all_goals with_reducible rfl))
              · (try simp only [Act.put, List.setIfInBounds_toArray, List.set_cons_zero, List.set_cons_succ])
                refine anyR_ready [2] (by kernel_rfl) (by simp) ?_
                (refine AllR.cons (TakesR.pure (v := ?_) rfl rfl ?_ ?_) ?_; rotate_left; · (go_simp; all_goals with_reducible rfl))
                · (try simp only [Act.put, List.setIfInBounds_toArray, List.set_cons_zero, List.set_cons_succ])
                  refine anyR_ready [3] (by kernel_rfl) (by simp) ?_
                  (refine AllR.cons (TakesR.pure (v := ?_) rfl rfl ?_ ?_) ?_; rotate_left; · (go_simp; all_goals with_reducible rfl))
                  · (try simp only [Act.put, List.setIfInBounds_toArray, List.set_cons_zero, List.set_cons_succ])
                    refine anyR_ready [6] (by kernel_rfl) (by simp) ?_
                    refine AllR.cons (TakesR.send (x := .tmp 42) (y := .tmp 44) (c := k.gc) (cap := k.n) (buf := encZ Q) (v := .int .i64 x.r) rfl rfl rfl (by go_simp) (by go_simp) HCH.out HRM.out ?_) AllR.nil
                    refine anyR_done (by kernel_rfl) ?_ _
                    ((try simp only [Act.put, List.setIfInBounds_toArray, List.set_cons_zero, List.set_cons_succ]); go_wp2; go_ret; exact ⟨rfl, HFIN.out, HBB.out⟩)
                  exact AllR.nil
                exact AllR.nil
              exact AllR.nil
            (refine AllR.cons (TakesR.pure (v := ?_) rfl rfl ?_ ?_) ?_; rotate_left; · (go_simp; all_goals with_reducible rfl))
            · (try simp only [Act.put, List.setIfInBounds_toArray, List.set_cons_zero, List.set_cons_succ])
              refine anyR_ready [1] (by kernel_rfl) (by simp) ?_
              (refine AllR.cons (TakesR.pure (v := ?_) rfl rfl ?_ ?_) ?_; rotate_left; · (go_simp; all_goals with_reducible rfl))
              · (try simp only [Act.put, List.setIfInBounds_toArray, List.set_cons_zero, List.set_cons_succ])
                refine anyR_ready [2] (by kernel_rfl) (by simp) ?_
                (refine AllR.cons (TakesR.pure (v := ?_) rfl rfl ?_ ?_) ?_; rotate_left; · (go_simp; all_goals with_reducible rfl))
                · (try simp only [Act.put, List.setIfInBounds_toArray, List.set_cons_zero, List.set_cons_succ])
                  refine anyR_ready [3] (by kernel_rfl) (by simp) ?_
                  (refine AllR.cons (TakesR.pure (v := ?_) rfl rfl ?_ ?_) ?_; rotate_left; · (go_simp; all_goals with_reducible rfl))
                  · (try simp only [Act.put, List.setIfInBounds_toArray, List.set_cons_zero, List.set_cons_succ])
                    refine anyR_ready [6] (by kernel_rfl) (by simp) ?_
                    refine AllR.cons (TakesR.send (x := .tmp 42) (y := .tmp 44) (c := k.gc) (cap := k.n) (buf := encZ Q) (v := .int .i64 x.r) rfl rfl rfl (by go_simp) (by go_simp) HCH.out HRM.out ?_) AllR.nil
                    refine anyR_done (by kernel_rfl) ?_ _
                    ((try simp only [Act.put, List.setIfInBounds_toArray, List.set_cons_zero, List.set_cons_succ]); go_wp2; go_ret; exact ⟨rfl, HFIN.out, HBB.out⟩)
                  exact AllR.nil
                exact AllR.nil
              exact AllR.nil
            exact AllR.nil
          (refine AllR.cons (TakesR.pure (v := ?_) rfl rfl ?_ ?_) ?_; rotate_left; · (go_simp; all_goals with_reducible rfl))
          · (try simp only [Act.put, List.setIfInBounds_toArray, List.set_cons_zero, List.set_cons_succ])
            refine anyR_ready [0] (by kernel_rfl) (by simp) ?_
            (refine AllR.cons (TakesR.pure (v := ?_) rfl rfl ?_ ?_) ?_; rotate_left; · (go_simp; all_goals with_reducible rfl))
            · (try simp only [Act.put, List.setIfInBounds_toArray, List.set_cons_zero, List.set_cons_succ])
              refine anyR_ready [1] (by kernel_rfl) (by simp) ?_
              (refine AllR.cons (TakesR.pure (v := ?_) rfl rfl ?_ ?_) ?_; rotate_left; · (go_simp; all_goals with_reducible rfl))
              · (try simp only [Act.put, List.setIfInBounds_toArray, List.set_cons_zero, List.set_cons_succ])
                refine anyR_ready [2] (by kernel_rfl) (by simp) ?_
                (refine AllR.cons (TakesR.pure (v := ?_) rfl rfl ?_ ?_) ?_; rotate_left; · (go_simp; all_goals with_reducible rfl))
                · (try simp only [Act.put, List.setIfInBounds_toArray, List.set_cons_zero, List.set_cons_succ])
                  refine anyR_ready [3] (by kernel_rfl) (by simp) ?_
                  (refine AllR.cons (TakesR.pure (v := ?_) rfl rfl ?_ ?_) ?_; rotate_left; · (go_simp; all_goals with_reducible rfl))
                  · (try simp only [Act.put, List.setIfInBounds_toArray, List.set_cons_zero, List.set_cons_succ])
                    refine anyR_ready [6] (by kernel_rfl) (by simp) ?_
                    refine AllR.cons (TakesR.send (x := .tmp 42) (y := .tmp 44) (c := k.gc) (cap := k.n) (buf := encZ Q) (v := .int .i64 x.r) rfl rfl rfl (by go_simp) (by go_simp) HCH.out HRM.out ?_) AllR.nil
                    refine anyR_done (by kernel_rfl) ?_ _
                    ((try simp only [Act.put, List.setIfInBounds_toArray, List.set_cons_zero, List.set_cons_succ]); go_wp2; go_ret; exact ⟨rfl, HFIN.out, HBB.out⟩)
                  exact AllR.nil
                exact AllR.nil
              exact AllR.nil
            exact AllR.nil
          exact AllR.nil
        exact AllR.nil
      · have hF : handF B Q x m i = (true, B, Q) := by simp [handF, h1, h2, h3]
        rw [hF]
        clear hF
        have hz := HW1.out.drew
        have HZ := Lib.hid hz
        clear hz
        go_enter Try.func65, Try.ntmps65
        go_wp2_with fail
        rw [← HW.out]
        go_region
        go_wp2
        go_ret
        exact ⟨rfl, HZ.out, ⟨HBW1.out.os, HBW1.out.tape, HBW1.out.output, HBW1.out.size, HBW1.out.block⟩⟩
end Go.Proofs.Ytjgpkolfcpoinaa.Mu

