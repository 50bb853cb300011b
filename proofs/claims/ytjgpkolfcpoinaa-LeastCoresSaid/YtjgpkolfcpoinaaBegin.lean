/-
  begin.
-/
import Derived.Test.YtjgpkolfcpoinaaHandOn
namespace Go.Proofs.Ytjgpkolfcpoinaa.Mu
set_option linter.unusedSimpArgs false
open Go.ChangeShapes Go.WideShapes Go.ChangeAt Go.RowKit Go.Shelf

attribute [local go_sem] Oper.semAt_some

/-- What by holds, and what is still to do, behind the first v rounds of begin. -/
def begB (G : List Int) (m : Int) (B : List Int) : Nat → List Int
  | 0 => B
  | v + 1 => (begB G m B v).set v (if m ≤ G[v]?.getD 0 then -2 else -1)
def begQ (G : List Int) (m : Int) : Nat → List Int
  | 0 => []
  | v + 1 => begQ G m v ++ if m ≤ G[v]?.getD 0 then [(v : Int)] else []
theorem begB_len (G : List Int) (m : Int) (B : List Int) : ∀ v, (begB G m B v).length = B.length
  | 0 => rfl
  | v + 1 => by simp [begB, begB_len G m B v]
theorem begQ_len (G : List Int) (m : Int) : ∀ v, (begQ G m v).length ≤ v
  | 0 => Nat.le_refl _
  | v + 1 => by
    have := begQ_len G m v
    simp only [begQ, List.length_append]
    split <;> simp <;> omega

set_option maxRecDepth 100000 in
set_option maxHeartbeats 1000000 in
theorem begin_any (k : Bk) (xs : List Iq) (F N G B : List Int) (m : Int) (hn : k.n ≤ 1048576) (w : World) (h : St w k xs F N G B []) :
    Calls Try.prog 64 #[.pointer (some ⟨k.s, 0, none⟩), .int .u8 m] w fun e w' => (∃ v, e = .returned v) ∧ St w' k xs F N G (begB G m B k.n) (begQ G m k.n) ∧ Below k.base w w' := by
  have HB0 : Hid (Below k.base w w) := Lib.hid (Below.refl _ _)
  have HS := Lib.hid h
  have q3 : w.cell? ⟨k.s, 3, none⟩ = some (.slice (some ⟨k.ga, 0, none⟩) k.n k.n) := by simp [World.cell?, h.sol.hs, cellsS]
  clear h
  go_enter Try.func64, Try.ntmps64
  go_wp2
  clear q3
  go_loopw [11] (fun i wr => ∃ v : Nat, v ≤ k.n ∧ i = .int .i64 (v : Int) ∧ Hid (St wr k xs F N G (begB G m B v) (begQ G m v)) ∧ Hid (Below k.base w wr))
    (fun i _ => (k.n - intOf i).toNat)
  case atStart => exact ⟨0, Nat.zero_le _, rfl, HS, HB0⟩
  case round =>
    obtain ⟨v, hv, rfl, HSR, HBR⟩ := hrel
    by_cases hlt : v < k.n
    · have i1 : (0 : Int) ≤ (v : Int) := by omega
      have i2 : (v : Int) < (k.n : Int) := by omega
      have g3 := HSR.out.sol.ha.cell (j := v) (by have := HSR.out.lg; omega)
      have q4 : wr.cell? ⟨k.s, 4, none⟩ = some (.slice (some ⟨k.gb, 0, none⟩) k.n k.n) := by simp [World.cell?, HSR.out.sol.hs, cellsS]
      have qB := HSR.out.sol.hb.cell (j := v) (by have := HSR.out.lb; omega)
      have qF := HSR.out.sol.hb.frozen v
      have hs1 := HSR.out.setB v (-1)
      have HS1 := Lib.hid hs1
      have hb1 := HBR.out.setCell (p := ⟨k.gb, v, none⟩) HSR.out.d.1.2.2.2.2.1 (.int .i64 (-1))
      have HB1 := Lib.hid hb1
      clear hs1 hb1
      by_cases hm : m ≤ G[v]?.getD 0
      · have q4' : (wr.setCell ⟨k.gb, v, none⟩ (.int .i64 (-1))).cell? ⟨k.s, 4, none⟩ = some (.slice (some ⟨k.gb, 0, none⟩) k.n k.n) := by simp [World.cell?, HS1.out.sol.hs, cellsS]
        have qB' := HS1.out.sol.hb.cell (j := v) (by have := HS1.out.lb; omega)
        have qF' := HS1.out.sol.hb.frozen v
        have hs2 := HS1.out.setB v (-2)
        rw [List.set_set] at hs2
        obtain ⟨sq, rq, hch⟩ := hs2.ch
        have HS2 := Lib.hid hs2
        have HCH := Lib.hid hch
        have hl := begQ_len G m v
        have HRM : Hid ((encZ (begQ G m v)).size < k.n) := Lib.hid (by rw [encZ_size]; omega)
        have HFIN : Hid (St (((wr.setCell ⟨k.gb, v, none⟩ (.int .i64 (-1))).setCell ⟨k.gb, v, none⟩ (.int .i64 (-2))).setChan k.gc k.n ((encZ (begQ G m v)).push (.int .i64 v)) false (sq + 1) rq false) k xs F N G (begB G m B (v + 1)) (begQ G m (v + 1))) := Lib.hid (by
          rw [encZ_push]
          have h := hs2.chan (begQ G m v ++ [(v : Int)]) (sq + 1) rq
          simp only [begB, begQ, if_pos hm]
          exact h)
        have HBB : Hid (Below k.base w (((wr.setCell ⟨k.gb, v, none⟩ (.int .i64 (-1))).setCell ⟨k.gb, v, none⟩ (.int .i64 (-2))).setChan k.gc k.n ((encZ (begQ G m v)).push (.int .i64 v)) false (sq + 1) rq false)) := Lib.hid
          (Conc.below_setChan (HB1.out.setCell (p := ⟨k.gb, v, none⟩) HS2.out.d.1.2.2.2.2.1 (.int .i64 (-2))) HS2.out.d.1.2.2.2.2.2 _ _ _ _ _ _)
        have r5 : ((wr.setCell ⟨k.gb, v, none⟩ (.int .i64 (-1))).setCell ⟨k.gb, v, none⟩ (.int .i64 (-2))).cell? ⟨k.s, 5, none⟩ = some (.chan (some k.gc)) := by simp [World.cell?, HS2.out.sol.hs, cellsS]
        clear hs2 hch hl
        generalize hc6 : Code.region 6 #[{ dst := some 31, op := Op.move (Operand.tmp 0), type := 69, pos := "least.go:113", after := #[], guard := none }, { dst := some 32, op := Op.nilCheck (Operand.tmp 31), type := 0, pos := "least.go:113", after := #[{ on := 0, ground := Ground.data }], guard := none }, { dst := some 33, op := Op.fieldAddr 75 (Operand.tmp 32) 5, type := 0, pos := "least.go:113", after := #[{ on := 1, ground := Ground.data }], guard := none }, { dst := some 34, op := Op.load 73 (Operand.tmp 33), type := 73, pos := "least.go:113", after := #[{ on := 2, ground := Ground.data }], guard := none }, { dst := some 35, op := Op.move (Operand.tmp 4), type := 3, pos := "least.go:113", after := #[], guard := none }, { dst := none, op := Op.send (Operand.tmp 34) (Operand.tmp 35), type := 0, pos := "least.go:113", after := #[{ on := 3, ground := Ground.data }, { on := 4, ground := Ground.data }], guard := none }] false = c6
        have HC6 := Lib.hid hc6
        clear hc6
        go_wp2_with fail
        rw [← HC6.out]
        refine AtR.region ?_
        change AtR _ _ _ [0, 1, 2, 3, 4, 5] _ _
        (refine AtR.pure (v := ?_) rfl rfl ?_ ?_; rotate_left; · (go_simp; all_goals with_reducible rfl))
        (try simp only [Act.put, List.setIfInBounds_toArray, List.set_cons_zero, List.set_cons_succ])
        (refine AtR.pure (v := ?_) rfl rfl ?_ ?_; rotate_left; · (go_simp; all_goals with_reducible rfl))
        (try simp only [Act.put, List.setIfInBounds_toArray, List.set_cons_zero, List.set_cons_succ])
        (refine AtR.pure (v := ?_) rfl rfl ?_ ?_; rotate_left; · (go_simp; all_goals with_reducible rfl))
        (try simp only [Act.put, List.setIfInBounds_toArray, List.set_cons_zero, List.set_cons_succ])
        (refine AtR.pure (v := ?_) rfl rfl ?_ ?_; rotate_left; · (go_simp; all_goals with_reducible rfl))
        (try simp only [Act.put, List.setIfInBounds_toArray, List.set_cons_zero, List.set_cons_succ])
        (refine AtR.pure (v := ?_) rfl rfl ?_ ?_; rotate_left; · (go_simp; all_goals with_reducible rfl))
        (try simp only [Act.put, List.setIfInBounds_toArray, List.set_cons_zero, List.set_cons_succ])
        refine AtR.send (x := .tmp 34) (y := .tmp 35) (c := k.gc) (cap := k.n) (buf := encZ (begQ G m v)) (v := .int .i64 v) rfl rfl rfl (by go_simp) (by go_simp) HCH.out HRM.out ?_
        refine AtR.nil ?_
        (try simp only [Act.put, List.setIfInBounds_toArray, List.set_cons_zero, List.set_cons_succ])
        go_wp2
        go_roundw
        case rel => exact ⟨v + 1, by omega, by go_num, HFIN, HBB⟩
        case measure => simp [intOf]; omega
      · have HFIN : Hid (St (wr.setCell ⟨k.gb, v, none⟩ (.int .i64 (-1))) k xs F N G (begB G m B (v + 1)) (begQ G m (v + 1))) := Lib.hid (by
          simp only [begB, begQ, if_neg hm, List.append_nil]
          exact HS1.out)
        go_wp2
        go_roundw
        case rel => exact ⟨v + 1, by omega, by go_num, HFIN, HB1⟩
        case measure => simp [intOf]; omega
    · obtain rfl : v = k.n := by omega
      go_wp2
      go_end0
      exact ⟨⟨_, rfl⟩, HSR.out, HBR.out⟩
end Go.Proofs.Ytjgpkolfcpoinaa.Mu

