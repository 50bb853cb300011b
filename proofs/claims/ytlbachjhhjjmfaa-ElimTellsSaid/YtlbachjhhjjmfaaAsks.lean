/-
  table's first question.
  A region that draws its order, guards among its operations, that makes memory and changes none: as Inv. Over whatever program.
  table's second question. (Written by gen_ask2.py.)
  greatest, over whatever question.
  What is no table.
  elim.May: what is no table.
-/
import Derived.Test.YtlbachjhhjjmfaaSetsF
import Derived.Test.YtlbachjhhjjmfaaSolvers
import Derived.Test.YtlbachjhhjjmfaaSolveA
namespace Go.Proofs.Ytlbachjhhjjmfaa.Mu
open Go.ChangeShapes Go.WideShapes Go.ChangeAt Go.RowKit Go.Shelf

attribute [local go_sem] Oper.semAt_some

set_option maxRecDepth 100000 in
set_option maxHeartbeats 1000000 in
theorem ask1_any (rb ib i m g off k c x y z : Nat) (hm : m < 4) (hi : i < k) (hx : x < 2 ^ 64) (hy : y < 2 ^ 64) (hz : z < 2 ^ 64) (w : World) (c0 : w.cell? ⟨rb, m, none⟩ = some (.slice (some ⟨g, off, none⟩) k c)) (c1 : w.cell? ⟨ib, 0, none⟩ = some (.int .i64 i))
    (c2 : w.cell? ⟨g, off + i * 3, none⟩ = some (.int .u64 x)) (c3 : w.cell? ⟨g, off + i * 3 + 1, none⟩ = some (.int .u64 y)) (c4 : w.cell? ⟨g, off + i * 3 + 2, none⟩ = some (.int .u64 z)) :
    Calls Try.prog 49 #[.int .u8 m, .pointer (some ⟨rb, 0, none⟩), .pointer (some ⟨ib, 0, none⟩)] w fun e w' => e = .returned (.bool (!mem3 x y z 150)) ∧ Bel w w' := by
  have HC := Lib.hid (fun (W : World) => has_any x y z hx hy hz 150 (Nat.le_refl _) W)
  have m1 : (0 : Int) ≤ (m : Int) := by omega
  have m2 : (m : Int) < 4 := by omega
  have i1 : (0 : Int) ≤ (i : Int) := by omega
  have i2 : (i : Int) < (k : Int) := by omega
  obtain ⟨b, hb⟩ : ∃ b, b = mem3 x y z 150 := ⟨_, rfl⟩
  rw [← hb] at HC ⊢
  clear hb hx hy hz
  go_enter Try.func49, Try.ntmps49
  go_wp2_with fail
  go_region_with (go_at_call 50; refine (HC.out _).mono ?_; rintro e w1 ⟨rfl, hb1⟩)
  all_goals
    have HB := Lib.hid ((Bel.refl w).drew.on hb1)
    clear hb1 c0 c1 c2 c3 c4
    simp only [Act.put, List.getElem_toArray, List.getElem_cons_succ, List.getElem_cons_zero, List.setIfInBounds_toArray, List.set_cons_zero, List.set_cons_succ]
    go_wp2_with fail
    go_ret
    exact ⟨rfl, HB.out⟩
end Go.Proofs.Ytlbachjhhjjmfaa.Mu
namespace Go.Proofs.Ytlbachjhhjjmfaa.Mu
open Go
theorem yields {ops : Array Oper} {tmps : Array Value} {j d : Nat} {b : Bool} (hd : (ops[j]?).bind (·.dst) = some d) (h : tmps.getD d undef = .bool b) : yielded ops tmps j = some b := by
  unfold yielded
  rw [hd]
  rw [Array.getD_eq_getD_getElem?] at h
  cases h' : tmps[d]? with
  | none => rw [h'] at h; cases h
  | some x => rw [h'] at h; simp only [Option.getD_some] at h; subst h; simp [h']
theorem wanted_yes {ops : Array Oper} {tmps : Array Value} {o : Oper} {j d : Nat} {b : Bool} (hg : o.guard = some (j, true)) (hd : (ops[j]?).bind (·.dst) = some d) (h : tmps.getD d undef = .bool b) (hw : Region.wanted o (yielded ops tmps) = true) : b = true := by
  have := yields hd h
  simpa [Region.wanted, hg, this] using hw
section
variable {P : Program} {Q : Exit → Act → World → Prop}
theorem wp_region_invG {id : Nat} {l : List Oper} (n : Nat) (a0 : Act) (w0 : World) (F : Nat → Value → World → Prop) (hm : P.follows .mixedOrders = true) (hB : tailB .any l.toArray n = true) (hf : fwdB l.toArray n = true) (hsl : slotsB l.toArray a0.tmps.size = true)
    (hq : Region.seqB .any l.toArray (l.length - n) n (Array.replicate n true ++ Array.replicate (l.length - n) false) = true)
    (hmono : ∀ i v w w', i < n → F i v w → Bel w w' → F i v w')
    (hstep : ∀ i o, i < n → l.toArray[i]? = some o → ∀ (a : Act) (w : World) (V : Nat → Value), Bel w0.drew w →
      (∀ e ∈ o.after, Region.binds .any e = true → F e.on (V e.on) w ∧ ∀ d, (l.toArray[e.on]?).bind (·.dst) = some d → a.eval (.tmp d) = V e.on) → (∀ s, s < a0.tmps.size → slotAt l.toArray s = none → a.eval (.tmp s) = a0.eval (.tmp s)) →
      ∀ K : Act → World → Prop, (∀ v w', Bel w w' → F i v w' → K (a.put o.dst v) w') → (Region.wanted o (yielded l.toArray a.tmps) = true → Oper.wp P o a w K Q) ∧ (Region.wanted o (yielded l.toArray a.tmps) = false → F i undef w))
    (hend : ∀ (V : Nat → Value) (w : World), Bel w0.drew w → (∀ i, i < n → F i (V i) w) → wpList P l.toArray Q (l.drop n) (finA l.toArray n V a0) w) :
    (Code.region id l.toArray true).wp P Q a0 w0 := by
  have hn' : n < l.length := by
    simp only [tailB, Bool.and_eq_true, decide_eq_true_eq] at hB
    simpa using hB.1.1.2
  refine wp_region_any hm ?_
  have inv0 : HeadInv .any l.toArray n (Array.replicate l.length false) :=
    ⟨by simp, fun j oj _ hl => (by rw [getD_replicate_false] at hl; cases hl), fun t _ ht => getD_in (by simpa using ht) (getD_replicate_false _ _)⟩
  have key := wpAny_invT (P := P) (Q := Q) (l := l) (n := n) (fun listed a w => listed.size = l.length ∧ (∀ t, n ≤ t → listed.getD t false = false) ∧ Bel w0.drew w ∧ ∃ (V : Nat → Value), Filled l.toArray listed V a0 a ∧ ∀ i, i < n → listed.getD i false = true → F i (V i) w) hB hf hq ?_ ?_ n (Array.replicate l.length false) a0 w0.drew (cnt_new (by omega)) inv0 ⟨by simp, fun t _ => getD_replicate_false _ _, Bel.refl _, fun _ => undef, ⟨rfl, rfl, fun s hs => by cases slotAt l.toArray s <;> simp only [getD_replicate_false, Bool.false_eq_true, if_false]⟩, fun i _ hi => by rw [getD_replicate_false] at hi; cases hi⟩
  · have e : n + (l.length - n) = l.length := by omega
    rw [e] at key
    simpa using key
  · rintro listed a w i inv ⟨hsz, htl, hbel, V, hfill, hF⟩ hin hun hr
    obtain ⟨_, o, ho, hall⟩ := mem_ready.1 hr
    have hKK : ∀ v w', Bel w w' → F i v w' → (listed.setIfInBounds i true).size = l.length ∧ (∀ t, n ≤ t → (listed.setIfInBounds i true).getD t false = false) ∧ Bel w0.drew w' ∧ ∃ (V : Nat → Value), Filled l.toArray (listed.setIfInBounds i true) V a0 (a.put o.dst v) ∧ ∀ j, j < n → (listed.setIfInBounds i true).getD j false = true → F j (V j) w' :=
      fun v w' hb hFi => ⟨by simpa using hsz, fun t ht => by rw [getD_set_ne false (by omega)]; exact htl t ht, hbel.on hb, fun j => if j = i then v else V j, hfill.put hsl ho (by omega) v, fun j hj hl => by
        by_cases e : j = i
        · subst e; simp only [if_true]; exact hFi
        · simp only [if_neg e]
          rw [getD_set_ne false (fun e' => e e'.symm)] at hl
          exact hmono j _ w w' hj (hF j hj hl) hb⟩
    have hK := hstep i o hin ho a w V hbel (fun e he hb => by
      have hl := hall e he hb
      have hen : e.on < n := by
        rcases Nat.lt_or_ge e.on n with h | h
        · exact h
        · rw [htl _ h] at hl; cases hl
      exact ⟨hF _ hen hl, fun d hd => hfill.eval hsl hl hd⟩) (fun s hs hn => hfill.par hn hs)
      (fun a' w' => (listed.setIfInBounds i true).size = l.length ∧ (∀ t, n ≤ t → (listed.setIfInBounds i true).getD t false = false) ∧ Bel w0.drew w' ∧ ∃ (V : Nat → Value), Filled l.toArray (listed.setIfInBounds i true) V a0 a' ∧ ∀ j, j < n → (listed.setIfInBounds i true).getD j false = true → F j (V j) w')
      hKK
    unfold wpOp
    simp only [ho]
    by_cases hw : Region.wanted o (yielded l.toArray a.tmps) = true
    · rw [if_pos hw]
      exact .inl (hK.1 hw)
    · rw [if_neg hw]
      exact hKK undef w (Bel.refl _) (hK.2 (by simpa using hw))
  · rintro listed a w ⟨hsz, htl, hbel, V, hfill, hF⟩ hall
    rw [hfill.fin hall htl]
    exact hend V w hbel fun i hi => hF i hi (hall i hi)
end
end Go.Proofs.Ytlbachjhhjjmfaa.Mu
namespace Go.Proofs.Ytlbachjhhjjmfaa.Mu
open Go.ChangeShapes Go.WideShapes Go.ChangeAt Go.RowKit Go.Shelf

attribute [local go_sem] Oper.semAt_some

theorem wanted_no {ops : Array Oper} {tmps : Array Value} {o : Oper} {j d : Nat} (hg : o.guard = some (j, true)) (hd : (ops[j]?).bind (·.dst) = some d) (h : tmps.getD d undef = .bool true) : Region.wanted o (yielded ops tmps) = true := by
  have := yields hd h
  simp [Region.wanted, hg, this]
def regQ : List Oper := [
  { dst := some 7, op := Op.move (Operand.tmp 0), type := 30, pos := "elim.go:119", after := #[], guard := none },
  { dst := some 8, op := Op.fieldAddr 26 (Operand.tmp 1) 1, type := 0, pos := "elim.go:119", after := #[], guard := none },
  { dst := some 9, op := Op.load 23 (Operand.tmp 8), type := 23, pos := "elim.go:119", after := #[{ on := 1, ground := Ground.data }], guard := none },
  { dst := some 10, op := Op.load 3 (Operand.tmp 2), type := 3, pos := "elim.go:119", after := #[], guard := none },
  { dst := some 11, op := Op.indexAddr 23 (Operand.tmp 9) (Operand.tmp 10), type := 0, pos := "elim.go:119", after := #[{ on := 2, ground := Ground.data }, { on := 3, ground := Ground.data }], guard := none },
  { dst := some 12, op := Op.load 30 (Operand.tmp 11), type := 30, pos := "elim.go:119", after := #[{ on := 4, ground := Ground.data }], guard := none },
  { dst := some 13, op := Op.binOp BinOp.leq 30 (Operand.tmp 7) (Operand.tmp 12) 30, type := 4, pos := "elim.go:119", after := #[{ on := 0, ground := Ground.data }, { on := 5, ground := Ground.data }], guard := none },
  { dst := some 14, op := Op.move (Operand.tmp 13), type := 4, pos := "elim.go:119", after := #[{ on := 6, ground := Ground.data }], guard := none },
  { dst := some 15, op := Op.move (Operand.tmp 0), type := 30, pos := "elim.go:119", after := #[{ on := 7, ground := Ground.guard }], guard := some (7, true) },
  { dst := some 16, op := Op.fieldAddr 26 (Operand.tmp 1) 0, type := 0, pos := "elim.go:119", after := #[{ on := 7, ground := Ground.guard }], guard := some (7, true) },
  { dst := some 17, op := Op.load 23 (Operand.tmp 16), type := 23, pos := "elim.go:119", after := #[{ on := 9, ground := Ground.data }, { on := 7, ground := Ground.guard }], guard := some (7, true) },
  { dst := some 18, op := Op.load 3 (Operand.tmp 3), type := 3, pos := "elim.go:119", after := #[{ on := 7, ground := Ground.guard }], guard := some (7, true) },
  { dst := some 19, op := Op.indexAddr 23 (Operand.tmp 17) (Operand.tmp 18), type := 0, pos := "elim.go:119", after := #[{ on := 10, ground := Ground.data }, { on := 11, ground := Ground.data }, { on := 7, ground := Ground.guard }], guard := some (7, true) },
  { dst := some 20, op := Op.load 30 (Operand.tmp 19), type := 30, pos := "elim.go:119", after := #[{ on := 12, ground := Ground.data }, { on := 7, ground := Ground.guard }], guard := some (7, true) },
  { dst := some 21, op := Op.binOp BinOp.gtr 30 (Operand.tmp 15) (Operand.tmp 20) 30, type := 4, pos := "elim.go:119", after := #[{ on := 8, ground := Ground.data }, { on := 13, ground := Ground.data }, { on := 7, ground := Ground.guard }], guard := some (7, true) },
  { dst := some 22, op := Op.pick (Operand.tmp 14) (Operand.tmp 21) (Operand.const (Value.bool false)), type := 4, pos := "elim.go:119", after := #[{ on := 7, ground := Ground.data }, { on := 14, ground := Ground.data }], guard := none },
  { dst := some 23, op := Op.move (Operand.tmp 22), type := 4, pos := "elim.go:119", after := #[{ on := 15, ground := Ground.data }, { on := 7, ground := Ground.chain }], guard := none },
  { dst := some 24, op := Op.move (Operand.tmp 0), type := 30, pos := "elim.go:119", after := #[{ on := 16, ground := Ground.guard }], guard := some (16, true) },
  { dst := some 25, op := Op.indexAddr 64 (Operand.tmp 4) (Operand.tmp 24), type := 0, pos := "elim.go:119", after := #[{ on := 17, ground := Ground.data }, { on := 16, ground := Ground.guard }], guard := some (16, true) },
  { dst := some 26, op := Op.load 62 (Operand.tmp 25), type := 62, pos := "elim.go:119", after := #[{ on := 18, ground := Ground.data }, { on := 16, ground := Ground.guard }], guard := some (16, true) },
  { dst := some 27, op := Op.load 3 (Operand.tmp 2), type := 3, pos := "elim.go:119", after := #[{ on := 16, ground := Ground.guard }], guard := some (16, true) },
  { dst := some 28, op := Op.indexAddr 62 (Operand.tmp 26) (Operand.tmp 27), type := 0, pos := "elim.go:119", after := #[{ on := 19, ground := Ground.data }, { on := 20, ground := Ground.data }, { on := 16, ground := Ground.guard }], guard := some (16, true) },
  { dst := some 29, op := Op.load 94 (Operand.tmp 28), type := 94, pos := "elim.go:119", after := #[{ on := 21, ground := Ground.data }, { on := 16, ground := Ground.guard }], guard := some (16, true) },
  { dst := some 30, op := Op.load 3 (Operand.tmp 3), type := 3, pos := "elim.go:119", after := #[{ on := 16, ground := Ground.guard }], guard := some (16, true) },
  { dst := some 31, op := Op.call { callee := Callee.value (Operand.func 50), args := #[Operand.tmp 29, Operand.tmp 30], argTypes := #[94, 3] }, type := 4, pos := "elim.go:119", after := #[{ on := 22, ground := Ground.data }, { on := 23, ground := Ground.data }, { on := 16, ground := Ground.chain }, { on := 16, ground := Ground.guard }], guard := some (16, true) },
  { dst := some 32, op := Op.unOp UnOp.not 4 (Operand.tmp 31), type := 4, pos := "elim.go:119", after := #[{ on := 24, ground := Ground.data }, { on := 16, ground := Ground.guard }], guard := some (16, true) },
  { dst := some 33, op := Op.pick (Operand.tmp 23) (Operand.tmp 32) (Operand.const (Value.bool false)), type := 4, pos := "elim.go:119", after := #[{ on := 16, ground := Ground.data }, { on := 25, ground := Ground.data }], guard := none },
  { dst := some 6, op := Op.assign (Operand.tmp 33), type := 4, pos := "elim.go:119", after := #[{ on := 26, ground := Ground.data }, { on := 24, ground := Ground.chain }, { on := 0, ground := Ground.phase }, { on := 1, ground := Ground.phase }, { on := 2, ground := Ground.phase }, { on := 3, ground := Ground.phase }, { on := 4, ground := Ground.phase }, { on := 5, ground := Ground.phase }, { on := 6, ground := Ground.phase }, { on := 7, ground := Ground.phase }, { on := 8, ground := Ground.phase }, { on := 9, ground := Ground.phase }, { on := 10, ground := Ground.phase }, { on := 11, ground := Ground.phase }, { on := 12, ground := Ground.phase }, { on := 13, ground := Ground.phase }, { on := 14, ground := Ground.phase }, { on := 15, ground := Ground.phase }, { on := 16, ground := Ground.phase }, { on := 17, ground := Ground.phase }, { on := 18, ground := Ground.phase }, { on := 19, ground := Ground.phase }, { on := 20, ground := Ground.phase }, { on := 21, ground := Ground.phase }, { on := 22, ground := Ground.phase }, { on := 23, ground := Ground.phase }, { on := 24, ground := Ground.phase }, { on := 25, ground := Ground.phase }, { on := 26, ground := Ground.phase }], guard := none }]
def specQ (m low up : Int) (M tb ub uo un uc lb lo ln lc i j rb g go k gc x y z : Nat) (a : Nat) (v : Value) (_ : World) : Prop :=
  match a with
  | 0 => v = .int .u8 m
  | 1 => v = .pointer (some ⟨tb, 1, none⟩)
  | 2 => v = .slice (some ⟨ub, uo, none⟩) un uc
  | 3 => v = .int .i64 i
  | 4 => v = .pointer (some ⟨ub, uo + i, none⟩)
  | 5 => v = .int .u8 up
  | 6 => v = .bool (decide (m ≤ up))
  | 7 => v = .bool (decide (m ≤ up))
  | 8 => decide (m ≤ up) = true → v = .int .u8 m
  | 9 => decide (m ≤ up) = true → v = .pointer (some ⟨tb, 0, none⟩)
  | 10 => decide (m ≤ up) = true → v = .slice (some ⟨lb, lo, none⟩) ln lc
  | 11 => decide (m ≤ up) = true → v = .int .i64 j
  | 12 => decide (m ≤ up) = true → v = .pointer (some ⟨lb, lo + j, none⟩)
  | 13 => decide (m ≤ up) = true → v = .int .u8 low
  | 14 => decide (m ≤ up) = true → v = .bool (decide (low < m))
  | 15 => v = .bool (decide (m ≤ up) && decide (low < m))
  | 16 => v = .bool (decide (m ≤ up) && decide (low < m))
  | 17 => (decide (m ≤ up) && decide (low < m)) = true → v = .int .u8 m
  | 18 => (decide (m ≤ up) && decide (low < m)) = true → v = .pointer (some ⟨rb, M, none⟩)
  | 19 => (decide (m ≤ up) && decide (low < m)) = true → v = .slice (some ⟨g, go, none⟩) k gc
  | 20 => (decide (m ≤ up) && decide (low < m)) = true → v = .int .i64 i
  | 21 => (decide (m ≤ up) && decide (low < m)) = true → v = .pointer (some ⟨g, go + i * 3, none⟩)
  | 22 => (decide (m ≤ up) && decide (low < m)) = true → v = .agg #[.int .u64 x, .int .u64 y, .int .u64 z]
  | 23 => (decide (m ≤ up) && decide (low < m)) = true → v = .int .i64 j
  | 24 => (decide (m ≤ up) && decide (low < m)) = true → v = .bool (mem3 x y z j)
  | 25 => (decide (m ≤ up) && decide (low < m)) = true → v = .bool (!mem3 x y z j)
  | 26 => v = .bool ((decide (m ≤ up) && decide (low < m)) && !mem3 x y z j)
  | _ => True
theorem specQ_mono {m low up : Int} {M tb ub uo un uc lb lo ln lc i j rb g go k gc x y z : Nat} (a : Nat) (v : Value) (w w' : World) (hi : a < 27) (h : specQ m low up M tb ub uo un uc lb lo ln lc i j rb g go k gc x y z a v w) (_ : Bel w w') : specQ m low up M tb ub uo un uc lb lo ln lc i j rb g go k gc x y z a v w' := by
  match a, hi, h with
  | 0, _, h => exact h
  | 1, _, h => exact h
  | 2, _, h => exact h
  | 3, _, h => exact h
  | 4, _, h => exact h
  | 5, _, h => exact h
  | 6, _, h => exact h
  | 7, _, h => exact h
  | 8, _, h => exact h
  | 9, _, h => exact h
  | 10, _, h => exact h
  | 11, _, h => exact h
  | 12, _, h => exact h
  | 13, _, h => exact h
  | 14, _, h => exact h
  | 15, _, h => exact h
  | 16, _, h => exact h
  | 17, _, h => exact h
  | 18, _, h => exact h
  | 19, _, h => exact h
  | 20, _, h => exact h
  | 21, _, h => exact h
  | 22, _, h => exact h
  | 23, _, h => exact h
  | 24, _, h => exact h
  | 25, _, h => exact h
  | 26, _, h => exact h
  | q + 27, hi, _ => exact absurd hi (by omega)
theorem regQ_tail : tailB .any regQ.toArray 27 = true := by kernel_rfl
theorem regQ_fwd : fwdB regQ.toArray 27 = true := by kernel_rfl
theorem regQ_slots : slotsB regQ.toArray 34 = true := by kernel_rfl
theorem regQ_seq : Region.seqB .any regQ.toArray (regQ.length - 27) 27 (Array.replicate 27 true ++ Array.replicate (regQ.length - 27) false) = true := by kernel_rfl
def actQ (m : Int) (tb ib jb rb : Nat) (V : Nat → Value) : Act :=
  { tmps := #[.int .u8 m, .pointer (some ⟨tb, 0, none⟩), .pointer (some ⟨ib, 0, none⟩), .pointer (some ⟨jb, 0, none⟩), .pointer (some ⟨rb, 0, none⟩), undef, .bool false, V 0, V 1, V 2, V 3, V 4, V 5, V 6, V 7, V 8, V 9, V 10, V 11, V 12, V 13, V 14, V 15, V 16, V 17, V 18, V 19, V 20, V 21, V 22, V 23, V 24, V 25, V 26], defers := [] }
set_option maxRecDepth 100000 in
set_option maxHeartbeats 4000000 in
theorem regQ_any {id : Nat} (m low up : Int) (M tb ub uo un uc lb lo ln lc i j rb g go k gc x y z : Nat) (ib jb : Nat) (hM : m.toNat = M) (m1 : 0 ≤ m) (m2 : m < 4) (hi : i < un) (hik : i < k) (hj : j ≤ 150) (hjl : j < ln) (hx : x < 2 ^ 64) (hy : y < 2 ^ 64) (hz : z < 2 ^ 64) (w : World)
    (c0 : w.cell? ⟨tb, 0, none⟩ = some (.slice (some ⟨lb, lo, none⟩) ln lc)) (c1 : w.cell? ⟨tb, 1, none⟩ = some (.slice (some ⟨ub, uo, none⟩) un uc)) (ci : w.cell? ⟨ib, 0, none⟩ = some (.int .i64 i)) (cj : w.cell? ⟨jb, 0, none⟩ = some (.int .i64 j))
    (cu : w.cell? ⟨ub, uo + i, none⟩ = some (.int .u8 up)) (cl : w.cell? ⟨lb, lo + j, none⟩ = some (.int .u8 low)) (cr : w.cell? ⟨rb, M, none⟩ = some (.slice (some ⟨g, go, none⟩) k gc))
    (cx : w.cell? ⟨g, go + i * 3, none⟩ = some (.int .u64 x)) (cy : w.cell? ⟨g, go + i * 3 + 1, none⟩ = some (.int .u64 y)) (cz : w.cell? ⟨g, go + i * 3 + 2, none⟩ = some (.int .u64 z))
    (hl : tb < w.drew.heap.size ∧ ib < w.drew.heap.size ∧ ub < w.drew.heap.size ∧ jb < w.drew.heap.size ∧ lb < w.drew.heap.size ∧ rb < w.drew.heap.size ∧ g < w.drew.heap.size) (Q : Exit → Act → World → Prop)
    (hend : ∀ (V : Nat → Value) (w' : World), Bel w.drew w' → V 26 = .bool ((decide (m ≤ up) && decide (low < m)) && !mem3 x y z j) → wpList Try.prog regQ.toArray Q (regQ.drop 27) (actQ m tb ib jb rb V) w') :
    (Code.region id regQ.toArray true).wp Try.prog Q (actQ m tb ib jb rb fun _ => undef) w := by
  have i1 : (0 : Int) ≤ (i : Int) := by omega
  have i2 : (i : Int) < (un : Int) := by omega
  have i3 : (i : Int) < (k : Int) := by omega
  have j1 : (0 : Int) ≤ (j : Int) := by omega
  have j2 : (j : Int) < (ln : Int) := by omega
  refine wp_region_invG (l := regQ) 27 (actQ m tb ib jb rb fun _ => undef) w (specQ m low up M tb ub uo un uc lb lo ln lc i j rb g go k gc x y z) (by kernel_rfl) regQ_tail regQ_fwd regQ_slots regQ_seq (fun a v w w' hi h hb => specQ_mono a v w w' hi h hb) ?_ ?_
  · intro i' o hi' ho a w1 V hbel hdep hpar K hK
    have p0 : a.eval (.tmp 0) = .int .u8 m := hpar 0 (by show 0 < 34; decide) (by kernel_rfl)
    have p1 : a.eval (.tmp 1) = .pointer (some ⟨tb, 0, none⟩) := hpar 1 (by show 1 < 34; decide) (by kernel_rfl)
    have p2 : a.eval (.tmp 2) = .pointer (some ⟨ib, 0, none⟩) := hpar 2 (by show 2 < 34; decide) (by kernel_rfl)
    have p3 : a.eval (.tmp 3) = .pointer (some ⟨jb, 0, none⟩) := hpar 3 (by show 3 < 34; decide) (by kernel_rfl)
    have p4 : a.eval (.tmp 4) = .pointer (some ⟨rb, 0, none⟩) := hpar 4 (by show 4 < 34; decide) (by kernel_rfl)
    have p1' : a.tmps[1]?.getD undef = .pointer (some ⟨tb, 0, none⟩) := by have h := p1; simp only [Act.eval, Array.getD_eq_getD_getElem?] at h; exact h
    have p2' : a.tmps[2]?.getD undef = .pointer (some ⟨ib, 0, none⟩) := by have h := p2; simp only [Act.eval, Array.getD_eq_getD_getElem?] at h; exact h
    have p3' : a.tmps[3]?.getD undef = .pointer (some ⟨jb, 0, none⟩) := by have h := p3; simp only [Act.eval, Array.getD_eq_getD_getElem?] at h; exact h
    have p4' : a.tmps[4]?.getD undef = .pointer (some ⟨rb, 0, none⟩) := by have h := p4; simp only [Act.eval, Array.getD_eq_getD_getElem?] at h; exact h
    match i', hi', ho, hdep, hK with
    | 0, _, ho, hdep, hK =>
      simp only [regQ, List.getElem?_toArray, List.getElem?_cons_zero, Option.some.injEq] at ho
      subst ho
      have hc : True := trivial
      refine ⟨fun _ => ?_, fun hw => ?_⟩
      case refine_2 => cases hw
      case refine_1 =>
        exact wp_val (v := .int .u8 m) (w' := w1) (by rw [← p0]; rfl) (hK _ _ (Bel.refl _) (rfl))
    | 1, _, ho, hdep, hK =>
      simp only [regQ, List.getElem?_toArray, List.getElem?_cons_zero, List.getElem?_cons_succ, Option.some.injEq] at ho
      subst ho
      have hc : True := trivial
      refine ⟨fun _ => ?_, fun hw => ?_⟩
      case refine_2 => cases hw
      case refine_1 =>
        exact wp_val (v := .pointer (some ⟨tb, 1, none⟩)) (w' := w1) (by simp [execOp, go_sem, p1']) (hK _ _ (Bel.refl _) (rfl))
    | 2, _, ho, hdep, hK =>
      simp only [regQ, List.getElem?_toArray, List.getElem?_cons_zero, List.getElem?_cons_succ, Option.some.injEq] at ho
      subst ho
      have hc : True := trivial
      refine ⟨fun _ => ?_, fun hw => ?_⟩
      case refine_2 => cases hw
      case refine_1 =>
        obtain ⟨f1, d1⟩ := hdep ⟨1, .data⟩ (by simp) rfl
        have e1 : a.eval (.tmp 8) = .pointer (some ⟨tb, 1, none⟩) := (d1 8 rfl).trans f1
        have e1' : a.tmps[8]?.getD undef = .pointer (some ⟨tb, 1, none⟩) := by have h := e1; simp only [Act.eval, Array.getD_eq_getD_getElem?] at h; exact h
        exact wp_val (v := .slice (some ⟨ub, uo, none⟩) un uc) (w' := w1) (by simp [execOp, go_sem, e1', (hbel.cell (p := ⟨tb, 1, none⟩) hl.1).trans c1]) (hK _ _ (Bel.refl _) (rfl))
    | 3, _, ho, hdep, hK =>
      simp only [regQ, List.getElem?_toArray, List.getElem?_cons_zero, List.getElem?_cons_succ, Option.some.injEq] at ho
      subst ho
      have hc : True := trivial
      refine ⟨fun _ => ?_, fun hw => ?_⟩
      case refine_2 => cases hw
      case refine_1 =>
        exact wp_val (v := .int .i64 i) (w' := w1) (by simp [execOp, go_sem, p2', (hbel.cell (p := ⟨ib, 0, none⟩) hl.2.1).trans ci]) (hK _ _ (Bel.refl _) (rfl))
    | 4, _, ho, hdep, hK =>
      simp only [regQ, List.getElem?_toArray, List.getElem?_cons_zero, List.getElem?_cons_succ, Option.some.injEq] at ho
      subst ho
      have hc : True := trivial
      refine ⟨fun _ => ?_, fun hw => ?_⟩
      case refine_2 => cases hw
      case refine_1 =>
        obtain ⟨f2, d2⟩ := hdep ⟨2, .data⟩ (by simp) rfl
        have e2 : a.eval (.tmp 9) = .slice (some ⟨ub, uo, none⟩) un uc := (d2 9 rfl).trans f2
        have e2' : a.tmps[9]?.getD undef = .slice (some ⟨ub, uo, none⟩) un uc := by have h := e2; simp only [Act.eval, Array.getD_eq_getD_getElem?] at h; exact h
        obtain ⟨f3, d3⟩ := hdep ⟨3, .data⟩ (by simp) rfl
        have e3 : a.eval (.tmp 10) = .int .i64 i := (d3 10 rfl).trans f3
        have e3' : a.tmps[10]?.getD undef = .int .i64 i := by have h := e3; simp only [Act.eval, Array.getD_eq_getD_getElem?] at h; exact h
        exact wp_val (v := .pointer (some ⟨ub, uo + i, none⟩)) (w' := w1) (by simp [execOp, go_sem, e2', e3', i1, i2]) (hK _ _ (Bel.refl _) (rfl))
    | 5, _, ho, hdep, hK =>
      simp only [regQ, List.getElem?_toArray, List.getElem?_cons_zero, List.getElem?_cons_succ, Option.some.injEq] at ho
      subst ho
      have hc : True := trivial
      refine ⟨fun _ => ?_, fun hw => ?_⟩
      case refine_2 => cases hw
      case refine_1 =>
        obtain ⟨f4, d4⟩ := hdep ⟨4, .data⟩ (by simp) rfl
        have e4 : a.eval (.tmp 11) = .pointer (some ⟨ub, uo + i, none⟩) := (d4 11 rfl).trans f4
        have e4' : a.tmps[11]?.getD undef = .pointer (some ⟨ub, uo + i, none⟩) := by have h := e4; simp only [Act.eval, Array.getD_eq_getD_getElem?] at h; exact h
        exact wp_val (v := .int .u8 up) (w' := w1) (by simp [execOp, go_sem, e4', (hbel.cell (p := ⟨ub, uo + i, none⟩) hl.2.2.1).trans cu]) (hK _ _ (Bel.refl _) (rfl))
    | 6, _, ho, hdep, hK =>
      simp only [regQ, List.getElem?_toArray, List.getElem?_cons_zero, List.getElem?_cons_succ, Option.some.injEq] at ho
      subst ho
      have hc : True := trivial
      refine ⟨fun _ => ?_, fun hw => ?_⟩
      case refine_2 => cases hw
      case refine_1 =>
        obtain ⟨f0, d0⟩ := hdep ⟨0, .data⟩ (by simp) rfl
        have e0 : a.eval (.tmp 7) = .int .u8 m := (d0 7 rfl).trans f0
        have e0' : a.tmps[7]?.getD undef = .int .u8 m := by have h := e0; simp only [Act.eval, Array.getD_eq_getD_getElem?] at h; exact h
        obtain ⟨f5, d5⟩ := hdep ⟨5, .data⟩ (by simp) rfl
        have e5 : a.eval (.tmp 12) = .int .u8 up := (d5 12 rfl).trans f5
        have e5' : a.tmps[12]?.getD undef = .int .u8 up := by have h := e5; simp only [Act.eval, Array.getD_eq_getD_getElem?] at h; exact h
        exact wp_val (v := .bool (decide (m ≤ up))) (w' := w1) (by simp [execOp, go_sem, e0', e5']) (hK _ _ (Bel.refl _) (rfl))
    | 7, _, ho, hdep, hK =>
      simp only [regQ, List.getElem?_toArray, List.getElem?_cons_zero, List.getElem?_cons_succ, Option.some.injEq] at ho
      subst ho
      have hc : True := trivial
      refine ⟨fun _ => ?_, fun hw => ?_⟩
      case refine_2 => cases hw
      case refine_1 =>
        obtain ⟨f6, d6⟩ := hdep ⟨6, .data⟩ (by simp) rfl
        have e6 : a.eval (.tmp 13) = .bool (decide (m ≤ up)) := (d6 13 rfl).trans f6
        have e6' : a.tmps[13]?.getD undef = .bool (decide (m ≤ up)) := by have h := e6; simp only [Act.eval, Array.getD_eq_getD_getElem?] at h; exact h
        exact wp_val (v := .bool (decide (m ≤ up))) (w' := w1) (by simp [execOp, go_sem, e6']) (hK _ _ (Bel.refl _) (rfl))
    | 8, _, ho, hdep, hK =>
      simp only [regQ, List.getElem?_toArray, List.getElem?_cons_zero, List.getElem?_cons_succ, Option.some.injEq] at ho
      subst ho
      obtain ⟨fg, dg⟩ := hdep ⟨7, .guard⟩ (by simp) rfl
      have eg : a.tmps.getD 14 undef = .bool (decide (m ≤ up)) := (dg 14 rfl).trans fg
      by_cases hc : decide (m ≤ up) = true
      case neg => exact ⟨fun hw => absurd (wanted_yes (d := 14) rfl rfl eg hw) hc, fun _ hc2 => absurd hc2 hc⟩
      refine ⟨fun _ => ?_, fun hw => ?_⟩
      case refine_2 => rw [wanted_no (d := 14) rfl rfl (eg.trans (by rw [hc]))] at hw; cases hw
      case refine_1 =>
        exact wp_val (v := .int .u8 m) (w' := w1) (by rw [← p0]; rfl) (hK _ _ (Bel.refl _) (fun _ => rfl))
    | 9, _, ho, hdep, hK =>
      simp only [regQ, List.getElem?_toArray, List.getElem?_cons_zero, List.getElem?_cons_succ, Option.some.injEq] at ho
      subst ho
      obtain ⟨fg, dg⟩ := hdep ⟨7, .guard⟩ (by simp) rfl
      have eg : a.tmps.getD 14 undef = .bool (decide (m ≤ up)) := (dg 14 rfl).trans fg
      by_cases hc : decide (m ≤ up) = true
      case neg => exact ⟨fun hw => absurd (wanted_yes (d := 14) rfl rfl eg hw) hc, fun _ hc2 => absurd hc2 hc⟩
      refine ⟨fun _ => ?_, fun hw => ?_⟩
      case refine_2 => rw [wanted_no (d := 14) rfl rfl (eg.trans (by rw [hc]))] at hw; cases hw
      case refine_1 =>
        exact wp_val (v := .pointer (some ⟨tb, 0, none⟩)) (w' := w1) (by simp [execOp, go_sem, p1']) (hK _ _ (Bel.refl _) (fun _ => rfl))
    | 10, _, ho, hdep, hK =>
      simp only [regQ, List.getElem?_toArray, List.getElem?_cons_zero, List.getElem?_cons_succ, Option.some.injEq] at ho
      subst ho
      obtain ⟨fg, dg⟩ := hdep ⟨7, .guard⟩ (by simp) rfl
      have eg : a.tmps.getD 14 undef = .bool (decide (m ≤ up)) := (dg 14 rfl).trans fg
      by_cases hc : decide (m ≤ up) = true
      case neg => exact ⟨fun hw => absurd (wanted_yes (d := 14) rfl rfl eg hw) hc, fun _ hc2 => absurd hc2 hc⟩
      refine ⟨fun _ => ?_, fun hw => ?_⟩
      case refine_2 => rw [wanted_no (d := 14) rfl rfl (eg.trans (by rw [hc]))] at hw; cases hw
      case refine_1 =>
        obtain ⟨f9, d9⟩ := hdep ⟨9, .data⟩ (by simp) rfl
        have e9 : a.eval (.tmp 16) = .pointer (some ⟨tb, 0, none⟩) := (d9 16 rfl).trans (f9 hc)
        have e9' : a.tmps[16]?.getD undef = .pointer (some ⟨tb, 0, none⟩) := by have h := e9; simp only [Act.eval, Array.getD_eq_getD_getElem?] at h; exact h
        exact wp_val (v := .slice (some ⟨lb, lo, none⟩) ln lc) (w' := w1) (by simp [execOp, go_sem, e9', (hbel.cell (p := ⟨tb, 0, none⟩) hl.1).trans c0]) (hK _ _ (Bel.refl _) (fun _ => rfl))
    | 11, _, ho, hdep, hK =>
      simp only [regQ, List.getElem?_toArray, List.getElem?_cons_zero, List.getElem?_cons_succ, Option.some.injEq] at ho
      subst ho
      obtain ⟨fg, dg⟩ := hdep ⟨7, .guard⟩ (by simp) rfl
      have eg : a.tmps.getD 14 undef = .bool (decide (m ≤ up)) := (dg 14 rfl).trans fg
      by_cases hc : decide (m ≤ up) = true
      case neg => exact ⟨fun hw => absurd (wanted_yes (d := 14) rfl rfl eg hw) hc, fun _ hc2 => absurd hc2 hc⟩
      refine ⟨fun _ => ?_, fun hw => ?_⟩
      case refine_2 => rw [wanted_no (d := 14) rfl rfl (eg.trans (by rw [hc]))] at hw; cases hw
      case refine_1 =>
        exact wp_val (v := .int .i64 j) (w' := w1) (by simp [execOp, go_sem, p3', (hbel.cell (p := ⟨jb, 0, none⟩) hl.2.2.2.1).trans cj]) (hK _ _ (Bel.refl _) (fun _ => rfl))
    | 12, _, ho, hdep, hK =>
      simp only [regQ, List.getElem?_toArray, List.getElem?_cons_zero, List.getElem?_cons_succ, Option.some.injEq] at ho
      subst ho
      obtain ⟨fg, dg⟩ := hdep ⟨7, .guard⟩ (by simp) rfl
      have eg : a.tmps.getD 14 undef = .bool (decide (m ≤ up)) := (dg 14 rfl).trans fg
      by_cases hc : decide (m ≤ up) = true
      case neg => exact ⟨fun hw => absurd (wanted_yes (d := 14) rfl rfl eg hw) hc, fun _ hc2 => absurd hc2 hc⟩
      refine ⟨fun _ => ?_, fun hw => ?_⟩
      case refine_2 => rw [wanted_no (d := 14) rfl rfl (eg.trans (by rw [hc]))] at hw; cases hw
      case refine_1 =>
        obtain ⟨f10, d10⟩ := hdep ⟨10, .data⟩ (by simp) rfl
        have e10 : a.eval (.tmp 17) = .slice (some ⟨lb, lo, none⟩) ln lc := (d10 17 rfl).trans (f10 hc)
        have e10' : a.tmps[17]?.getD undef = .slice (some ⟨lb, lo, none⟩) ln lc := by have h := e10; simp only [Act.eval, Array.getD_eq_getD_getElem?] at h; exact h
        obtain ⟨f11, d11⟩ := hdep ⟨11, .data⟩ (by simp) rfl
        have e11 : a.eval (.tmp 18) = .int .i64 j := (d11 18 rfl).trans (f11 hc)
        have e11' : a.tmps[18]?.getD undef = .int .i64 j := by have h := e11; simp only [Act.eval, Array.getD_eq_getD_getElem?] at h; exact h
        exact wp_val (v := .pointer (some ⟨lb, lo + j, none⟩)) (w' := w1) (by simp [execOp, go_sem, e10', e11', j1, j2]) (hK _ _ (Bel.refl _) (fun _ => rfl))
    | 13, _, ho, hdep, hK =>
      simp only [regQ, List.getElem?_toArray, List.getElem?_cons_zero, List.getElem?_cons_succ, Option.some.injEq] at ho
      subst ho
      obtain ⟨fg, dg⟩ := hdep ⟨7, .guard⟩ (by simp) rfl
      have eg : a.tmps.getD 14 undef = .bool (decide (m ≤ up)) := (dg 14 rfl).trans fg
      by_cases hc : decide (m ≤ up) = true
      case neg => exact ⟨fun hw => absurd (wanted_yes (d := 14) rfl rfl eg hw) hc, fun _ hc2 => absurd hc2 hc⟩
      refine ⟨fun _ => ?_, fun hw => ?_⟩
      case refine_2 => rw [wanted_no (d := 14) rfl rfl (eg.trans (by rw [hc]))] at hw; cases hw
      case refine_1 =>
        obtain ⟨f12, d12⟩ := hdep ⟨12, .data⟩ (by simp) rfl
        have e12 : a.eval (.tmp 19) = .pointer (some ⟨lb, lo + j, none⟩) := (d12 19 rfl).trans (f12 hc)
        have e12' : a.tmps[19]?.getD undef = .pointer (some ⟨lb, lo + j, none⟩) := by have h := e12; simp only [Act.eval, Array.getD_eq_getD_getElem?] at h; exact h
        exact wp_val (v := .int .u8 low) (w' := w1) (by simp [execOp, go_sem, e12', (hbel.cell (p := ⟨lb, lo + j, none⟩) hl.2.2.2.2.1).trans cl]) (hK _ _ (Bel.refl _) (fun _ => rfl))
    | 14, _, ho, hdep, hK =>
      simp only [regQ, List.getElem?_toArray, List.getElem?_cons_zero, List.getElem?_cons_succ, Option.some.injEq] at ho
      subst ho
      obtain ⟨fg, dg⟩ := hdep ⟨7, .guard⟩ (by simp) rfl
      have eg : a.tmps.getD 14 undef = .bool (decide (m ≤ up)) := (dg 14 rfl).trans fg
      by_cases hc : decide (m ≤ up) = true
      case neg => exact ⟨fun hw => absurd (wanted_yes (d := 14) rfl rfl eg hw) hc, fun _ hc2 => absurd hc2 hc⟩
      refine ⟨fun _ => ?_, fun hw => ?_⟩
      case refine_2 => rw [wanted_no (d := 14) rfl rfl (eg.trans (by rw [hc]))] at hw; cases hw
      case refine_1 =>
        obtain ⟨f8, d8⟩ := hdep ⟨8, .data⟩ (by simp) rfl
        have e8 : a.eval (.tmp 15) = .int .u8 m := (d8 15 rfl).trans (f8 hc)
        have e8' : a.tmps[15]?.getD undef = .int .u8 m := by have h := e8; simp only [Act.eval, Array.getD_eq_getD_getElem?] at h; exact h
        obtain ⟨f13, d13⟩ := hdep ⟨13, .data⟩ (by simp) rfl
        have e13 : a.eval (.tmp 20) = .int .u8 low := (d13 20 rfl).trans (f13 hc)
        have e13' : a.tmps[20]?.getD undef = .int .u8 low := by have h := e13; simp only [Act.eval, Array.getD_eq_getD_getElem?] at h; exact h
        exact wp_val (v := .bool (decide (low < m))) (w' := w1) (by simp [execOp, go_sem, e8', e13']) (hK _ _ (Bel.refl _) (fun _ => rfl))
    | 15, _, ho, hdep, hK =>
      simp only [regQ, List.getElem?_toArray, List.getElem?_cons_zero, List.getElem?_cons_succ, Option.some.injEq] at ho
      subst ho
      have hc : True := trivial
      refine ⟨fun _ => ?_, fun hw => ?_⟩
      case refine_2 => cases hw
      case refine_1 =>
        obtain ⟨f7, d7⟩ := hdep ⟨7, .data⟩ (by simp) rfl
        have e7 : a.eval (.tmp 14) = .bool (decide (m ≤ up)) := (d7 14 rfl).trans f7
        have e7' : a.tmps[14]?.getD undef = .bool (decide (m ≤ up)) := by have h := e7; simp only [Act.eval, Array.getD_eq_getD_getElem?] at h; exact h
        obtain ⟨f14, d14⟩ := hdep ⟨14, .data⟩ (by simp) rfl
        by_cases hq : decide (m ≤ up) = true
        · have e14' : a.tmps[21]?.getD undef = .bool (decide (low < m)) := by have h := (d14 21 rfl).trans (f14 hq); simp only [Act.eval, Array.getD_eq_getD_getElem?] at h; exact h
          exact wp_val (v := .bool (decide (m ≤ up) && decide (low < m))) (w' := w1) (by rw [hq] at e7' ⊢; simp [execOp, go_sem, e7', e14']) (hK _ _ (Bel.refl _) rfl)
        · have hq' : decide (m ≤ up) = false := by simpa using hq
          exact wp_val (v := .bool (decide (m ≤ up) && decide (low < m))) (w' := w1) (by rw [hq'] at e7' ⊢; simp [execOp, go_sem, e7']) (hK _ _ (Bel.refl _) rfl)
    | 16, _, ho, hdep, hK =>
      simp only [regQ, List.getElem?_toArray, List.getElem?_cons_zero, List.getElem?_cons_succ, Option.some.injEq] at ho
      subst ho
      have hc : True := trivial
      refine ⟨fun _ => ?_, fun hw => ?_⟩
      case refine_2 => cases hw
      case refine_1 =>
        obtain ⟨f15, d15⟩ := hdep ⟨15, .data⟩ (by simp) rfl
        have e15 : a.eval (.tmp 22) = .bool (decide (m ≤ up) && decide (low < m)) := (d15 22 rfl).trans f15
        have e15' : a.tmps[22]?.getD undef = .bool (decide (m ≤ up) && decide (low < m)) := by have h := e15; simp only [Act.eval, Array.getD_eq_getD_getElem?] at h; exact h
        exact wp_val (v := .bool (decide (m ≤ up) && decide (low < m))) (w' := w1) (by simp [execOp, go_sem, e15']) (hK _ _ (Bel.refl _) (rfl))
    | 17, _, ho, hdep, hK =>
      simp only [regQ, List.getElem?_toArray, List.getElem?_cons_zero, List.getElem?_cons_succ, Option.some.injEq] at ho
      subst ho
      obtain ⟨fg, dg⟩ := hdep ⟨16, .guard⟩ (by simp) rfl
      have eg : a.tmps.getD 23 undef = .bool (decide (m ≤ up) && decide (low < m)) := (dg 23 rfl).trans fg
      by_cases hc : (decide (m ≤ up) && decide (low < m)) = true
      case neg => exact ⟨fun hw => absurd (wanted_yes (d := 23) rfl rfl eg hw) hc, fun _ hc2 => absurd hc2 hc⟩
      refine ⟨fun _ => ?_, fun hw => ?_⟩
      case refine_2 => rw [wanted_no (d := 23) rfl rfl (eg.trans (by rw [hc]))] at hw; cases hw
      case refine_1 =>
        exact wp_val (v := .int .u8 m) (w' := w1) (by rw [← p0]; rfl) (hK _ _ (Bel.refl _) (fun _ => rfl))
    | 18, _, ho, hdep, hK =>
      simp only [regQ, List.getElem?_toArray, List.getElem?_cons_zero, List.getElem?_cons_succ, Option.some.injEq] at ho
      subst ho
      obtain ⟨fg, dg⟩ := hdep ⟨16, .guard⟩ (by simp) rfl
      have eg : a.tmps.getD 23 undef = .bool (decide (m ≤ up) && decide (low < m)) := (dg 23 rfl).trans fg
      by_cases hc : (decide (m ≤ up) && decide (low < m)) = true
      case neg => exact ⟨fun hw => absurd (wanted_yes (d := 23) rfl rfl eg hw) hc, fun _ hc2 => absurd hc2 hc⟩
      refine ⟨fun _ => ?_, fun hw => ?_⟩
      case refine_2 => rw [wanted_no (d := 23) rfl rfl (eg.trans (by rw [hc]))] at hw; cases hw
      case refine_1 =>
        obtain ⟨f17, d17⟩ := hdep ⟨17, .data⟩ (by simp) rfl
        have e17 : a.eval (.tmp 24) = .int .u8 m := (d17 24 rfl).trans (f17 hc)
        have e17' : a.tmps[24]?.getD undef = .int .u8 m := by have h := e17; simp only [Act.eval, Array.getD_eq_getD_getElem?] at h; exact h
        exact wp_val (v := .pointer (some ⟨rb, M, none⟩)) (w' := w1) (by simp [execOp, go_sem, p4', e17', m1, m2, hM]) (hK _ _ (Bel.refl _) (fun _ => rfl))
    | 19, _, ho, hdep, hK =>
      simp only [regQ, List.getElem?_toArray, List.getElem?_cons_zero, List.getElem?_cons_succ, Option.some.injEq] at ho
      subst ho
      obtain ⟨fg, dg⟩ := hdep ⟨16, .guard⟩ (by simp) rfl
      have eg : a.tmps.getD 23 undef = .bool (decide (m ≤ up) && decide (low < m)) := (dg 23 rfl).trans fg
      by_cases hc : (decide (m ≤ up) && decide (low < m)) = true
      case neg => exact ⟨fun hw => absurd (wanted_yes (d := 23) rfl rfl eg hw) hc, fun _ hc2 => absurd hc2 hc⟩
      refine ⟨fun _ => ?_, fun hw => ?_⟩
      case refine_2 => rw [wanted_no (d := 23) rfl rfl (eg.trans (by rw [hc]))] at hw; cases hw
      case refine_1 =>
        obtain ⟨f18, d18⟩ := hdep ⟨18, .data⟩ (by simp) rfl
        have e18 : a.eval (.tmp 25) = .pointer (some ⟨rb, M, none⟩) := (d18 25 rfl).trans (f18 hc)
        have e18' : a.tmps[25]?.getD undef = .pointer (some ⟨rb, M, none⟩) := by have h := e18; simp only [Act.eval, Array.getD_eq_getD_getElem?] at h; exact h
        exact wp_val (v := .slice (some ⟨g, go, none⟩) k gc) (w' := w1) (by simp [execOp, go_sem, e18', (hbel.cell (p := ⟨rb, M, none⟩) hl.2.2.2.2.2.1).trans cr]) (hK _ _ (Bel.refl _) (fun _ => rfl))
    | 20, _, ho, hdep, hK =>
      simp only [regQ, List.getElem?_toArray, List.getElem?_cons_zero, List.getElem?_cons_succ, Option.some.injEq] at ho
      subst ho
      obtain ⟨fg, dg⟩ := hdep ⟨16, .guard⟩ (by simp) rfl
      have eg : a.tmps.getD 23 undef = .bool (decide (m ≤ up) && decide (low < m)) := (dg 23 rfl).trans fg
      by_cases hc : (decide (m ≤ up) && decide (low < m)) = true
      case neg => exact ⟨fun hw => absurd (wanted_yes (d := 23) rfl rfl eg hw) hc, fun _ hc2 => absurd hc2 hc⟩
      refine ⟨fun _ => ?_, fun hw => ?_⟩
      case refine_2 => rw [wanted_no (d := 23) rfl rfl (eg.trans (by rw [hc]))] at hw; cases hw
      case refine_1 =>
        exact wp_val (v := .int .i64 i) (w' := w1) (by simp [execOp, go_sem, p2', (hbel.cell (p := ⟨ib, 0, none⟩) hl.2.1).trans ci]) (hK _ _ (Bel.refl _) (fun _ => rfl))
    | 21, _, ho, hdep, hK =>
      simp only [regQ, List.getElem?_toArray, List.getElem?_cons_zero, List.getElem?_cons_succ, Option.some.injEq] at ho
      subst ho
      obtain ⟨fg, dg⟩ := hdep ⟨16, .guard⟩ (by simp) rfl
      have eg : a.tmps.getD 23 undef = .bool (decide (m ≤ up) && decide (low < m)) := (dg 23 rfl).trans fg
      by_cases hc : (decide (m ≤ up) && decide (low < m)) = true
      case neg => exact ⟨fun hw => absurd (wanted_yes (d := 23) rfl rfl eg hw) hc, fun _ hc2 => absurd hc2 hc⟩
      refine ⟨fun _ => ?_, fun hw => ?_⟩
      case refine_2 => rw [wanted_no (d := 23) rfl rfl (eg.trans (by rw [hc]))] at hw; cases hw
      case refine_1 =>
        obtain ⟨f19, d19⟩ := hdep ⟨19, .data⟩ (by simp) rfl
        have e19 : a.eval (.tmp 26) = .slice (some ⟨g, go, none⟩) k gc := (d19 26 rfl).trans (f19 hc)
        have e19' : a.tmps[26]?.getD undef = .slice (some ⟨g, go, none⟩) k gc := by have h := e19; simp only [Act.eval, Array.getD_eq_getD_getElem?] at h; exact h
        obtain ⟨f20, d20⟩ := hdep ⟨20, .data⟩ (by simp) rfl
        have e20 : a.eval (.tmp 27) = .int .i64 i := (d20 27 rfl).trans (f20 hc)
        have e20' : a.tmps[27]?.getD undef = .int .i64 i := by have h := e20; simp only [Act.eval, Array.getD_eq_getD_getElem?] at h; exact h
        exact wp_val (v := .pointer (some ⟨g, go + i * 3, none⟩)) (w' := w1) (by simp [execOp, go_sem, e19', e20', i1, i3]) (hK _ _ (Bel.refl _) (fun _ => rfl))
    | 22, _, ho, hdep, hK =>
      simp only [regQ, List.getElem?_toArray, List.getElem?_cons_zero, List.getElem?_cons_succ, Option.some.injEq] at ho
      subst ho
      obtain ⟨fg, dg⟩ := hdep ⟨16, .guard⟩ (by simp) rfl
      have eg : a.tmps.getD 23 undef = .bool (decide (m ≤ up) && decide (low < m)) := (dg 23 rfl).trans fg
      by_cases hc : (decide (m ≤ up) && decide (low < m)) = true
      case neg => exact ⟨fun hw => absurd (wanted_yes (d := 23) rfl rfl eg hw) hc, fun _ hc2 => absurd hc2 hc⟩
      refine ⟨fun _ => ?_, fun hw => ?_⟩
      case refine_2 => rw [wanted_no (d := 23) rfl rfl (eg.trans (by rw [hc]))] at hw; cases hw
      case refine_1 =>
        obtain ⟨f21, d21⟩ := hdep ⟨21, .data⟩ (by simp) rfl
        have e21 : a.eval (.tmp 28) = .pointer (some ⟨g, go + i * 3, none⟩) := (d21 28 rfl).trans (f21 hc)
        have e21' : a.tmps[28]?.getD undef = .pointer (some ⟨g, go + i * 3, none⟩) := by have h := e21; simp only [Act.eval, Array.getD_eq_getD_getElem?] at h; exact h
        exact wp_val (v := .agg #[.int .u64 x, .int .u64 y, .int .u64 z]) (w' := w1) (by simp [execOp, go_sem, e21', (hbel.cell (p := ⟨g, go + i * 3, none⟩) hl.2.2.2.2.2.2).trans cx, (hbel.cell (p := ⟨g, go + i * 3 + 1, none⟩) hl.2.2.2.2.2.2).trans cy, (hbel.cell (p := ⟨g, go + i * 3 + 2, none⟩) hl.2.2.2.2.2.2).trans cz]) (hK _ _ (Bel.refl _) (fun _ => rfl))
    | 23, _, ho, hdep, hK =>
      simp only [regQ, List.getElem?_toArray, List.getElem?_cons_zero, List.getElem?_cons_succ, Option.some.injEq] at ho
      subst ho
      obtain ⟨fg, dg⟩ := hdep ⟨16, .guard⟩ (by simp) rfl
      have eg : a.tmps.getD 23 undef = .bool (decide (m ≤ up) && decide (low < m)) := (dg 23 rfl).trans fg
      by_cases hc : (decide (m ≤ up) && decide (low < m)) = true
      case neg => exact ⟨fun hw => absurd (wanted_yes (d := 23) rfl rfl eg hw) hc, fun _ hc2 => absurd hc2 hc⟩
      refine ⟨fun _ => ?_, fun hw => ?_⟩
      case refine_2 => rw [wanted_no (d := 23) rfl rfl (eg.trans (by rw [hc]))] at hw; cases hw
      case refine_1 =>
        exact wp_val (v := .int .i64 j) (w' := w1) (by simp [execOp, go_sem, p3', (hbel.cell (p := ⟨jb, 0, none⟩) hl.2.2.2.1).trans cj]) (hK _ _ (Bel.refl _) (fun _ => rfl))
    | 24, _, ho, hdep, hK =>
      simp only [regQ, List.getElem?_toArray, List.getElem?_cons_zero, List.getElem?_cons_succ, Option.some.injEq] at ho
      subst ho
      obtain ⟨fg, dg⟩ := hdep ⟨16, .guard⟩ (by simp) rfl
      have eg : a.tmps.getD 23 undef = .bool (decide (m ≤ up) && decide (low < m)) := (dg 23 rfl).trans fg
      by_cases hc : (decide (m ≤ up) && decide (low < m)) = true
      case neg => exact ⟨fun hw => absurd (wanted_yes (d := 23) rfl rfl eg hw) hc, fun _ hc2 => absurd hc2 hc⟩
      refine ⟨fun _ => ?_, fun hw => ?_⟩
      case refine_2 => rw [wanted_no (d := 23) rfl rfl (eg.trans (by rw [hc]))] at hw; cases hw
      case refine_1 =>
        obtain ⟨f22, d22⟩ := hdep ⟨22, .data⟩ (by simp) rfl
        have e22 : a.eval (.tmp 29) = .agg #[.int .u64 x, .int .u64 y, .int .u64 z] := (d22 29 rfl).trans (f22 hc)
        have e22' : a.tmps[29]?.getD undef = .agg #[.int .u64 x, .int .u64 y, .int .u64 z] := by have h := e22; simp only [Act.eval, Array.getD_eq_getD_getElem?] at h; exact h
        obtain ⟨f23, d23⟩ := hdep ⟨23, .data⟩ (by simp) rfl
        have e23 : a.eval (.tmp 30) = .int .i64 j := (d23 30 rfl).trans (f23 hc)
        have e23' : a.tmps[30]?.getD undef = .int .i64 j := by have h := e23; simp only [Act.eval, Array.getD_eq_getD_getElem?] at h; exact h
        have hrun : ∀ o : Oper, o.op = .call { callee := .value (.func 50), args := #[.tmp 29, .tmp 30], argTypes := #[94, 3] } → (execOp a.eval o).run Try.prog w1 = .ok (.enter 50 #[.agg #[.int .u64 x, .int .u64 y, .int .u64 z], .int .i64 j]) w1 := fun o ho => by simp [execOp, ho, resolve, invoke, go_sem, e22', e23']
        unfold Oper.wp
        rw [hrun _ rfl]
        refine (has_any x y z hx hy hz j hj w1).mono ?_
        rintro e w' ⟨rfl, hb⟩
        exact hK _ _ hb (fun _ => rfl)
    | 25, _, ho, hdep, hK =>
      simp only [regQ, List.getElem?_toArray, List.getElem?_cons_zero, List.getElem?_cons_succ, Option.some.injEq] at ho
      subst ho
      obtain ⟨fg, dg⟩ := hdep ⟨16, .guard⟩ (by simp) rfl
      have eg : a.tmps.getD 23 undef = .bool (decide (m ≤ up) && decide (low < m)) := (dg 23 rfl).trans fg
      by_cases hc : (decide (m ≤ up) && decide (low < m)) = true
      case neg => exact ⟨fun hw => absurd (wanted_yes (d := 23) rfl rfl eg hw) hc, fun _ hc2 => absurd hc2 hc⟩
      refine ⟨fun _ => ?_, fun hw => ?_⟩
      case refine_2 => rw [wanted_no (d := 23) rfl rfl (eg.trans (by rw [hc]))] at hw; cases hw
      case refine_1 =>
        obtain ⟨f24, d24⟩ := hdep ⟨24, .data⟩ (by simp) rfl
        have e24 : a.eval (.tmp 31) = .bool (mem3 x y z j) := (d24 31 rfl).trans (f24 hc)
        have e24' : a.tmps[31]?.getD undef = .bool (mem3 x y z j) := by have h := e24; simp only [Act.eval, Array.getD_eq_getD_getElem?] at h; exact h
        exact wp_val (v := .bool (!mem3 x y z j)) (w' := w1) (by simp [execOp, go_sem, e24']) (hK _ _ (Bel.refl _) (fun _ => rfl))
    | 26, _, ho, hdep, hK =>
      simp only [regQ, List.getElem?_toArray, List.getElem?_cons_zero, List.getElem?_cons_succ, Option.some.injEq] at ho
      subst ho
      have hc : True := trivial
      refine ⟨fun _ => ?_, fun hw => ?_⟩
      case refine_2 => cases hw
      case refine_1 =>
        obtain ⟨f16, d16⟩ := hdep ⟨16, .data⟩ (by simp) rfl
        have e16 : a.eval (.tmp 23) = .bool (decide (m ≤ up) && decide (low < m)) := (d16 23 rfl).trans f16
        have e16' : a.tmps[23]?.getD undef = .bool (decide (m ≤ up) && decide (low < m)) := by have h := e16; simp only [Act.eval, Array.getD_eq_getD_getElem?] at h; exact h
        obtain ⟨f25, d25⟩ := hdep ⟨25, .data⟩ (by simp) rfl
        by_cases hq : (decide (m ≤ up) && decide (low < m)) = true
        · have e25' : a.tmps[32]?.getD undef = .bool (!mem3 x y z j) := by have h := (d25 32 rfl).trans (f25 hq); simp only [Act.eval, Array.getD_eq_getD_getElem?] at h; exact h
          exact wp_val (v := .bool ((decide (m ≤ up) && decide (low < m)) && !mem3 x y z j)) (w' := w1) (by rw [hq] at e16' ⊢; simp [execOp, go_sem, e16', e25']) (hK _ _ (Bel.refl _) rfl)
        · have hq' : (decide (m ≤ up) && decide (low < m)) = false := by simpa using hq
          exact wp_val (v := .bool ((decide (m ≤ up) && decide (low < m)) && !mem3 x y z j)) (w' := w1) (by rw [hq'] at e16' ⊢; simp [execOp, go_sem, e16']) (hK _ _ (Bel.refl _) rfl)
    | q + 27, hi, _, _, _ => exact absurd hi (by omega)
  · intro V w' hb hF
    have e : finA regQ.toArray 27 V (actQ m tb ib jb rb fun _ => undef) = actQ m tb ib jb rb V := by kernel_rfl
    rw [e]
    exact hend V w' hb (hF 26 (by omega))
set_option maxRecDepth 100000 in
theorem ask2_any (m low up : Int) (M tb ub uo un uc lb lo ln lc i j rb g go k gc x y z : Nat) (ib jb : Nat) (hM : m.toNat = M) (m1 : 0 ≤ m) (m2 : m < 4) (hi : i < un) (hik : i < k) (hj : j ≤ 150) (hjl : j < ln) (hx : x < 2 ^ 64) (hy : y < 2 ^ 64) (hz : z < 2 ^ 64) (w : World)
    (c0 : w.cell? ⟨tb, 0, none⟩ = some (.slice (some ⟨lb, lo, none⟩) ln lc)) (c1 : w.cell? ⟨tb, 1, none⟩ = some (.slice (some ⟨ub, uo, none⟩) un uc)) (ci : w.cell? ⟨ib, 0, none⟩ = some (.int .i64 i)) (cj : w.cell? ⟨jb, 0, none⟩ = some (.int .i64 j))
    (cu : w.cell? ⟨ub, uo + i, none⟩ = some (.int .u8 up)) (cl : w.cell? ⟨lb, lo + j, none⟩ = some (.int .u8 low)) (cr : w.cell? ⟨rb, M, none⟩ = some (.slice (some ⟨g, go, none⟩) k gc))
    (cx : w.cell? ⟨g, go + i * 3, none⟩ = some (.int .u64 x)) (cy : w.cell? ⟨g, go + i * 3 + 1, none⟩ = some (.int .u64 y)) (cz : w.cell? ⟨g, go + i * 3 + 2, none⟩ = some (.int .u64 z))
    (hl : tb < w.heap.size ∧ ib < w.heap.size ∧ ub < w.heap.size ∧ jb < w.heap.size ∧ lb < w.heap.size ∧ rb < w.heap.size ∧ g < w.heap.size) :
    Calls Try.prog 51 #[.int .u8 m, .pointer (some ⟨tb, 0, none⟩), .pointer (some ⟨ib, 0, none⟩), .pointer (some ⟨jb, 0, none⟩), .pointer (some ⟨rb, 0, none⟩)] w fun e w' => e = .returned (.bool ((decide (m ≤ up) && decide (low < m)) && !mem3 x y z j)) ∧ Bel w w' := by
  have HC := Lib.hid (fun Q => regQ_any (id := 1) m low up M tb ub uo un uc lb lo ln lc i j rb g go k gc x y z ib jb hM m1 m2 hi hik hj hjl hx hy hz w c0 c1 ci cj cu cl cr cx cy cz hl Q)
  clear hM m1 m2 hi hik hj hjl hx hy hz c0 c1 ci cj cu cl cr cx cy cz hl
  go_enter Try.func51, Try.ntmps51
  go_wp2_with fail
  refine HC.out _ ?_
  intro V w' hb h26
  obtain ⟨r, hr⟩ : ∃ r, r = ((decide (m ≤ up) && decide (low < m)) && !mem3 x y z j) := ⟨_, rfl⟩
  rw [← hr] at h26
  have HR := Lib.hid hr
  have HB := Lib.hid hb
  simp only [regQ, List.drop_succ_cons, List.drop_zero, actQ, h26]
  clear hb h26 HC hr
  go_wp2_with fail
  go_ret
  exact ⟨by rw [HR.out]; rfl, (Bel.refl w).drew.on HB.out⟩
end Go.Proofs.Ytlbachjhhjjmfaa.Mu
namespace Go.Proofs.Ytlbachjhhjjmfaa.Mu
open Go.ChangeShapes Go.WideShapes Go.ChangeAt Go.RowKit Go.Shelf

attribute [local go_sem] Oper.semAt_some

/-- The greatest multiplicity of which the question says yes. -/
def greatP (p : Int → Bool) : Int := if p 3 = true then 3 else if p 2 = true then 2 else 1
set_option maxHeartbeats 1000000 in
theorem greatF_any (fo : Nat) (caps : Array Value) (p : Int → Bool) (w : World) (eg : ∀ args w, (callFunc fo args).run Try.prog w = .ok (.enter fo args) w)
    (hf : ∀ m : Int, (m = 3 ∨ m = 2) → ∀ W, Bel w W → Calls Try.prog fo (#[.int .u8 m] ++ caps) W fun e w' => e = .returned (.bool (p m)) ∧ Bel W w') :
    Calls Try.prog 48 #[.func (.func fo) #[] caps] w fun e w' => e = .returned (.int .u8 (greatP p)) ∧ Bel w w' := by
  have HF := Lib.hid hf
  obtain ⟨r, hr⟩ : ∃ r, r = greatP p := ⟨_, rfl⟩
  have HR := Lib.hid hr
  rw [← hr]
  clear hf hr
  go_enter Try.func48, Try.ntmps48
  go_wp2
  go_loopw [3] (fun i wr => ∃ m : Int, i = .int .u8 m ∧ Hid (m = 3 ∨ (m = 2 ∧ p 3 = false) ∨ (m = 1 ∧ p 3 = false ∧ p 2 = false)) ∧ Hid (Bel w wr)) (fun i _ => (intOf i).toNat)
  case atStart => exact ⟨3, rfl, Lib.hid (.inl rfl), Lib.hid (Bel.refl _)⟩
  case round =>
    obtain ⟨m, rfl, HM, HB⟩ := hrel
    by_cases h1 : m = 1
    · subst h1
      go_wp2
      go_ret
      refine ⟨?_, HB.out⟩
      rcases HM.out with h | ⟨h, _⟩ | ⟨_, h2, h3⟩
      · omega
      · omega
      · rw [HR.out]
        unfold greatP
        rw [h2, h3]
        rfl
    · have hm : m = 3 ∨ m = 2 := by
        rcases HM.out with h | ⟨h, _⟩ | ⟨h, _⟩
        · exact .inl h
        · exact .inr h
        · exact absurd h h1
      have HC := Lib.hid (HF.out m hm _ HB.out)
      have hgt : 1 < m := by omega
      obtain ⟨b, hb⟩ : ∃ b, b = p m := ⟨_, rfl⟩
      rw [← hb] at HC
      have HBB := Lib.hid hb
      clear hb
      have hw : IntKind.u8.wrap (m - 1) = m - 1 := by rcases hm with rfl | rfl <;> decide
      have HMM := Lib.hid hm
      clear hm
      cases b
      · go_wp2_with fail
        refine HC.out.mono ?_
        rintro e w2 ⟨rfl, hb2⟩
        have HB2 := Lib.hid (HB.out.on hb2)
        clear hb2
        go_wp2
        go_roundw
        case rel =>
          refine ⟨m - 1, rfl, Lib.hid ?_, HB2⟩
          have hb := HBB.out
          rcases HM.out with h | ⟨h, h3⟩ | ⟨h, _⟩
          · subst h; exact .inr (.inl ⟨by omega, hb.symm⟩)
          · subst h; exact .inr (.inr ⟨by omega, h3, hb.symm⟩)
          · exact absurd h h1
        case measure => simp [intOf]; omega
      · go_wp2_with fail
        refine HC.out.mono ?_
        rintro e w2 ⟨rfl, hb2⟩
        have HB2 := Lib.hid (HB.out.on hb2)
        clear hb2
        go_wp2
        go_ret
        refine ⟨?_, HB2.out⟩
        have hb := HBB.out
        rw [HR.out]
        unfold greatP
        rcases HM.out with h | ⟨h, h3⟩ | ⟨h, _⟩
        · subst h; rw [← hb]; rfl
        · subst h; rw [h3, ← hb]; rfl
        · exact absurd h h1
end Go.Proofs.Ytlbachjhhjjmfaa.Mu
namespace Go.Proofs.Ytlbachjhhjjmfaa.Mu
open Go.ChangeShapes Go.WideShapes Go.ChangeAt Go.RowKit Go.Shelf

attribute [local go_sem] Oper.semAt_some

theorem acl_any (m : Int) (w : World) : Calls Try.prog 83 #[.int .u8 m] w fun e w' => e = .returned (.bool (badM m)) ∧ Bel w w' := by
  unfold badM
  by_cases h1 : m < 1
  · have e : (decide (m < 1) || decide (3 < m)) = true := by simp [h1]
    rw [e]
    go_enter Try.func83, Try.ntmps83
    go_wp2
    go_ret
    exact ⟨rfl, Bel.refl _⟩
  · by_cases h2 : 3 < m
    · have e : (decide (m < 1) || decide (3 < m)) = true := by simp [h2]
      rw [e]
      go_enter Try.func83, Try.ntmps83
      go_wp2
      go_ret
      exact ⟨rfl, Bel.refl _⟩
    · have e : (decide (m < 1) || decide (3 < m)) = false := by simp [h1, h2]
      rw [e]
      go_enter Try.func83, Try.ntmps83
      go_wp2
      go_ret
      exact ⟨rfl, Bel.refl _⟩

set_option maxHeartbeats 1000000 in
theorem aidx_any (A : Option Addr) (n cap : Nat) (low : List Int) (w : World) (hr : RI .u8 w w.heap.size A n low) (hmax : n ≤ 9223372036854775807) :
    Calls Try.prog 41 #[.slice A n cap, .func (.func 83) #[] #[]] w fun e w' => ∃ r : Int, e = .returned (.int .i64 r) ∧ ((low.any badM = true ∧ 0 ≤ r) ∨ (low.any badM = false ∧ r = -1)) ∧ Bel w w' := by
  have HR := Lib.hid hr
  have HL := Lib.hid hr.len
  clear hr
  go_enter Try.func41, Try.ntmps41
  go_wp2
  go_loopw [8] (fun i wr => ∃ j : Nat, j ≤ n ∧ i = .int .i64 (j : Int) ∧ Hid ((low.take j).any badM = false) ∧ Hid (Bel w wr)) (fun i _ => n - (intOf i).toNat)
  case atStart => exact ⟨0, Nat.zero_le _, rfl, Lib.hid (by simp), Lib.hid (Bel.refl _)⟩
  case round =>
    obtain ⟨j, hj, rfl, HT, HB⟩ := hrel
    by_cases hlt : j < n
    · obtain ⟨b, off, eA, hb, hc⟩ := (HR.out.bel HB.out).at_ (by omega)
      subst eA
      have c0 := hc j hlt
      have i1 : (0 : Int) ≤ (j : Int) := by omega
      have i2 : (j : Int) < (n : Int) := by omega
      obtain ⟨y, hy⟩ : ∃ y, low[j]? = some y := ⟨_, List.getElem?_eq_getElem (by rw [← HL.out]; exact hlt)⟩
      rw [hy, Option.getD_some] at c0
      have HY := Lib.hid hy
      clear hc hy
      obtain ⟨bb, hbb⟩ : ∃ bb, bb = badM y := ⟨_, rfl⟩
      have HC : Hid (∀ W, Calls Try.prog 83 #[.int .u8 y] W fun e w' => e = .returned (.bool bb) ∧ Bel W w') := Lib.hid fun W => by rw [hbb]; exact acl_any y W
      have HBB := Lib.hid hbb
      clear hbb
      cases bb
      · go_wp2_with fail
        refine (HC.out _).mono ?_
        rintro e w2 ⟨rfl, hb2⟩
        have HB2 := Lib.hid (HB.out.on hb2)
        clear hb2
        go_wp2
        go_roundw
        case rel => exact ⟨j + 1, by omega, by go_num, Lib.hid (by rw [take_snoc_ HY.out, List.any_append, HT.out]; simp [← HBB.out]), HB2⟩
        case measure => simp [intOf]; omega
      · go_wp2_with fail
        refine (HC.out _).mono ?_
        rintro e w2 ⟨rfl, hb2⟩
        have HB2 := Lib.hid (HB.out.on hb2)
        clear hb2
        go_wp2
        go_ret
        exact ⟨_, rfl, .inl ⟨List.any_eq_true.2 ⟨y, List.mem_of_getElem? HY.out, HBB.out.symm⟩, by omega⟩, HB2.out⟩
    · obtain rfl : j = n := by omega
      go_wp2
      go_ret
      refine ⟨_, rfl, .inr ⟨?_, rfl⟩, HB.out⟩
      have h := HT.out
      rw [HL.out, List.take_length] at h
      exact h
theorem acont_any (A : Option Addr) (n cap : Nat) (low : List Int) (w : World) (hr : RI .u8 w w.heap.size A n low) (hmax : n ≤ 9223372036854775807) :
    Calls Try.prog 19 #[.slice A n cap, .func (.func 83) #[] #[]] w fun e w' => e = .returned (.bool (low.any badM)) ∧ Bel w w' := by
  go_enter Try.func19, Try.ntmps19
  go_wp2_with fail
  refine (aidx_any A n cap low w hr hmax).mono ?_
  rintro e w2 ⟨r, rfl, ⟨h1, h2⟩ | ⟨h1, h2⟩, hb⟩
  · go_wp2
    go_ret
    exact ⟨by rw [h1]; rfl, hb⟩
  · subst h2
    go_wp2
    go_ret
    exact ⟨by rw [h1]; rfl, hb⟩

/-- Whether these are k multiplicities. -/
def areM (k : Int) (l : List Int) : Bool := decide ((l.length : Int) = k) && !l.any badM
theorem are_any (k : Int) (A : Option Addr) (n cap : Nat) (l : List Int) (w : World) (hr : RI .u8 w w.heap.size A n l) (hmax : n ≤ 9223372036854775807) : Calls Try.prog 64 #[.int .i64 k, .slice A n cap] w fun e w' => e = .returned (.bool (areM k l)) ∧ Bel w w' := by
  have HC := Lib.hid (acont_any A n cap l w hr hmax)
  have HL := Lib.hid hr.len
  clear hr
  by_cases hk : (n : Int) = k
  · have hk' : ((n : Int) == k) = true := by simp [hk]
    obtain ⟨r, hr⟩ : ∃ r, r = l.any badM := ⟨_, rfl⟩
    rw [← hr] at HC
    have HR := Lib.hid hr
    have HK := Lib.hid hk
    clear hr hk
    cases r
    all_goals
      go_enter Try.func64, Try.ntmps64
      go_wp2_with fail
      refine HC.out.mono ?_
      rintro e w2 ⟨rfl, hb2⟩
      go_wp2
      go_ret
      refine ⟨?_, hb2⟩
      have h1 := HK.out
      rw [HL.out] at h1
      unfold areM
      rw [← HR.out]
      simp [h1]
  · have hk' : ((n : Int) == k) = false := by simp [hk]
    have hf : areM k l = false := by
      unfold areM
      rw [← HL.out]
      simp [hk]
    rw [hf]
    clear hf
    go_enter Try.func64, Try.ntmps64
    go_wp2
    go_ret
    exact ⟨rfl, Bel.refl _⟩
end Go.Proofs.Ytlbachjhhjjmfaa.Mu
namespace Go.Proofs.Ytlbachjhhjjmfaa.Mu
open Go.ChangeShapes Go.WideShapes Go.ChangeAt Go.RowKit Go.Shelf

attribute [local go_sem] Oper.semAt_some

/-- A slice of slices of multiplicities. -/
def RP (w : World) (B : Nat) (A : Option Addr) (n : Nat) (rows : List (Option Addr × Nat × Nat × List Int)) : Prop := n = rows.length ∧ (0 < n → ∃ b off, A = some ⟨b, off, none⟩ ∧ b < B ∧ ∀ (k : Nat) (r : Option Addr × Nat × Nat × List Int), rows[k]? = some r → w.cell? ⟨b, off + k, none⟩ = some (.slice r.1 r.2.1 r.2.2.1) ∧ RI .u8 w B r.1 r.2.1 r.2.2.2 ∧ r.2.1 ≤ 9223372036854775807)
theorem RP.bel {w w' : World} {A : Option Addr} {n : Nat} {rows : List (Option Addr × Nat × Nat × List Int)} (h : RP w w.heap.size A n rows) (hb : Bel w w') : RP w' w'.heap.size A n rows :=
  ⟨h.1, fun hp => by
    obtain ⟨b, off, e, hlt, hc⟩ := h.2 hp
    exact ⟨b, off, e, Nat.lt_of_lt_of_le hlt hb.size, fun k r hr => by
      obtain ⟨h1, h2, h3⟩ := hc k r hr
      exact ⟨(hb.cell (p := ⟨b, off + k, none⟩) hlt).trans h1, h2.bel hb, h3⟩⟩⟩
def mayTab (L U : List Int) (rows : List (Option Addr × Nat × Nat × List Int)) : Int :=
  if 150 < L.length ∨ 150 < U.length ∨ 150 < rows.length then 3
  else if rows.length ≠ L.length ∨ areM L.length L = false ∨ areM L.length U = false then 2
  else if rows.any (fun r => !areM L.length r.2.2.2) = true then 2 else 0
set_option maxRecDepth 100000 in
set_option maxHeartbeats 2000000 in
theorem mayTab_any (LA UA PA : Option Addr) (ln lc un uc pn pc : Nat) (L U : List Int) (rows : List (Option Addr × Nat × Nat × List Int)) (w : World) (hL : RI .u8 w w.heap.size LA ln L) (hU : RI .u8 w w.heap.size UA un U) (hP : RP w w.heap.size PA pn rows) (hlm : ln ≤ 9223372036854775807) (hum : un ≤ 9223372036854775807) :
    Calls Try.prog 42 #[.agg #[.slice LA ln lc, .slice UA un uc, .slice PA pn pc]] w fun e w' => e = .returned (.int .i64 (mayTab L U rows)) ∧ Bel w w' := by
  have HL := Lib.hid hL
  have HU := Lib.hid hU
  have HP := Lib.hid hP
  have HLL := Lib.hid hL.len
  have HUL := Lib.hid hU.len
  have HPL := Lib.hid hP.1
  obtain ⟨r, hr⟩ : ∃ r, r = mayTab L U rows := ⟨_, rfl⟩
  rw [← hr]
  unfold mayTab at hr
  rw [← HLL.out, ← HUL.out, ← HPL.out] at hr
  clear hL hU hP
  by_cases h1 : 150 < ln ∨ 150 < un ∨ 150 < pn
  · rw [if_pos h1] at hr
    subst hr
    have hd : (150 : Int) < max (max (ln : Int) (un : Int)) (pn : Int) := by omega
    clear h1
    go_enter Try.func42, Try.ntmps42
    go_wp2
    all_goals
      go_ret
      exact ⟨rfl, (Bel.refl w).alloc _⟩
  · rw [if_neg h1] at hr
    have hd : ¬ (150 : Int) < max (max (ln : Int) (un : Int)) (pn : Int) := by omega
    have HNB := Lib.hid h1
    clear h1
    by_cases h2 : pn = ln
    · obtain rfl : ln = pn := h2.symm
      have h2' : ((ln : Int) != (ln : Int)) = false := by simp
      have HAL : Hid (∀ W, Bel w W → Calls Try.prog 64 #[.int .i64 ln, .slice LA ln lc] W fun e w' => e = .returned (.bool (areM ln L)) ∧ Bel W w') := Lib.hid (fun W hb => are_any ln LA ln lc L W (HL.out.bel hb) hlm)
      have HAU : Hid (∀ W, Bel w W → Calls Try.prog 64 #[.int .i64 ln, .slice UA un uc] W fun e w' => e = .returned (.bool (areM ln U)) ∧ Bel W w') := Lib.hid (fun W hb => are_any ln UA un uc U W (HU.out.bel hb) hum)
      have HAR : Hid (∀ (r : Option Addr × Nat × Nat × List Int) W, RI .u8 W W.heap.size r.1 r.2.1 r.2.2.2 → r.2.1 ≤ 9223372036854775807 → Calls Try.prog 64 #[.int .i64 ln, .slice r.1 r.2.1 r.2.2.1] W fun e w' => e = .returned (.bool (areM ln r.2.2.2)) ∧ Bel W w') := Lib.hid (fun r W hri hle => are_any ln r.1 r.2.1 r.2.2.1 r.2.2.2 W hri hle)
      obtain ⟨pl, hpl⟩ : ∃ p, p = areM (ln : Int) L := ⟨_, rfl⟩
      obtain ⟨pu, hpu⟩ : ∃ p, p = areM (ln : Int) U := ⟨_, rfl⟩
      rw [← hpl] at HAL hr
      rw [← hpu] at HAU hr
      have h2n : ¬ (ln ≠ ln) := fun h => h rfl
      clear hpl hpu HL HU
      cases pl
      · rw [if_pos (.inr (.inl rfl))] at hr
        subst hr
        clear h2n
        go_enter Try.func42, Try.ntmps42
        go_wp2_with fail
        all_goals
          refine (HAL.out _ ((Bel.refl w).alloc _)).mono ?_
          rintro e w2 ⟨rfl, hb2⟩
          go_wp2_with fail
          go_ret
          exact ⟨rfl, ((Bel.refl w).alloc _).on hb2⟩
      · cases pu
        · rw [if_pos (.inr (.inr rfl))] at hr
          subst hr
          clear h2n
          go_enter Try.func42, Try.ntmps42
          go_wp2_with fail
          all_goals
            refine (HAL.out _ ((Bel.refl w).alloc _)).mono ?_
            rintro e w2 ⟨rfl, hb2⟩
            obtain ⟨c0, c1, c2, _, _, _⟩ := cells3 (hb2.blk (blk1 w _))
            have HB2 := Lib.hid (((Bel.refl w).alloc _).on hb2)
            clear hb2
            go_wp2_with fail
            refine (HAU.out _ HB2.out).mono ?_
            rintro e w3 ⟨rfl, hb3⟩
            have HB3 := Lib.hid (HB2.out.on hb3)
            clear hb3 c0 c1 c2
            go_wp2_with fail
            go_ret
            exact ⟨rfl, HB3.out⟩
        · rw [if_neg (by rintro (h | h | h); exact h2n h; cases h; cases h)] at hr
          have HR := Lib.hid hr
          clear hr h2n
          go_enter Try.func42, Try.ntmps42
          go_wp2_with fail
          all_goals
            refine (HAL.out _ ((Bel.refl w).alloc _)).mono ?_
            rintro e w2 ⟨rfl, hb2⟩
            have hbx := hb2.blk (blk1 w _)
            obtain ⟨c0, c1, c2, _, _, _⟩ := cells3 hbx
            have HBX := Lib.hid hbx
            have HB2 := Lib.hid (((Bel.refl w).alloc _).on hb2)
            clear hb2 hbx
            go_wp2_with fail
            refine (HAU.out _ HB2.out).mono ?_
            rintro e w3 ⟨rfl, hb3⟩
            have HB3 := Lib.hid (HB2.out.on hb3)
            obtain ⟨d0, d1, d2, _, _, _⟩ := cells3 (hb3.blk HBX.out)
            clear hb3 c0 c1 c2
            go_wp2_with fail
            clear d0 d1 d2
            go_loopw [40] (fun i wr => ∃ j : Nat, j ≤ ln ∧ i = .int .i64 (j : Int) ∧ Hid ((rows.take j).any (fun r => !areM (ln : Int) r.2.2.2) = false) ∧ Hid (Bel w wr)) (fun i _ => ln - (intOf i).toNat)
            case atStart => exact ⟨0, Nat.zero_le _, rfl, Lib.hid (by simp), HB3⟩
            case round =>
              obtain ⟨j, hj, rfl, HT, HB⟩ := hrel
              by_cases hlt : j < ln
              · obtain ⟨b, off, eA, hb, hc⟩ := (HP.out.bel HB.out).2 (by omega)
                obtain ⟨y, hy⟩ : ∃ y, rows[j]? = some y := ⟨_, List.getElem?_eq_getElem (by rw [← HPL.out]; exact hlt)⟩
                obtain ⟨k0, k1, k2⟩ := hc j y hy
                have i1 : (0 : Int) ≤ (j : Int) := by omega
                have i2 : (j : Int) < (ln : Int) := by omega
                have HY := Lib.hid hy
                obtain ⟨bb, hbb⟩ : ∃ bb, bb = areM (ln : Int) y.2.2.2 := ⟨_, rfl⟩
                have HC := Lib.hid (HAR.out y wr k1 k2)
                rw [← hbb] at HC
                have HBB := Lib.hid hbb
                subst eA
                clear hc hy hbb k1 k2
                cases bb
                · go_wp2_with fail
                  refine HC.out.mono ?_
                  rintro e w4 ⟨rfl, hb4⟩
                  have HB4 := Lib.hid (HB.out.on hb4)
                  clear hb4
                  go_wp2_with fail
                  go_ret
                  refine ⟨?_, HB4.out⟩
                  rw [HR.out, if_pos (List.any_eq_true.2 ⟨y, List.mem_of_getElem? HY.out, by rw [← HBB.out]; rfl⟩)]
                  rfl
                · go_wp2_with fail
                  refine HC.out.mono ?_
                  rintro e w4 ⟨rfl, hb4⟩
                  have HB4 := Lib.hid (HB.out.on hb4)
                  clear hb4
                  go_wp2_with fail
                  go_roundw
                  case rel => exact ⟨j + 1, by omega, by go_num, Lib.hid (by rw [take_snoc_ HY.out, List.any_append, HT.out]; simp [← HBB.out]), HB4⟩
                  case measure => simp [intOf]; omega
              · obtain rfl : j = ln := by omega
                go_wp2_with fail
                go_ret
                refine ⟨?_, HB.out⟩
                have h := HT.out
                rw [HPL.out, List.take_length, ← HPL.out] at h
                rw [HR.out, if_neg (by rw [h]; decide)]
                rfl
    · rw [if_pos (.inl h2)] at hr
      subst hr
      have h2' : ((pn : Int) != (ln : Int)) = true := by simp; omega
      go_enter Try.func42, Try.ntmps42
      go_wp2_with fail
      all_goals
        go_ret
        exact ⟨rfl, (Bel.refl w).alloc _⟩
end Go.Proofs.Ytlbachjhhjjmfaa.Mu

