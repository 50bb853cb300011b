/-
  The statement TermMeans, walked: what is told of joined, summed, scaled terms under an assignment is joined, summed, scaled of what is told of each.
-/
import Derived.Test.YtfegoilgbjhhpaaTermMath
import Derived.Test.YtfegoilgbjhhpaaTermX
import Derived.Test.YtfegoilgbjhhpaaMultList
namespace Go.Proofs.Ytfegoilgbjhhpaa.Mu
open Go.ChangeShapes Go.WideShapes Go.ChangeAt Go.RowKit

theorem j2L_len {n1 n2 : Bool} {c1 c2 : Int} {l1 l2 : List Int} : (j2L n1 n2 c1 c2 l1 l2).length ≤ l1.length + l2.length := by
  cases n1 <;> cases n2
  · exact Nat.le_trans (greatL_len _ _) (by simp)
  · exact Nat.le_trans (greatL_len _ _) (by omega)
  · exact Nat.le_trans (greatL_len _ _) (by omega)
  · simp [j2L]
theorem s2L_len {n1 n2 : Bool} {l1 l2 : List Int} : (s2L n1 n2 l1 l2).length ≤ l1.length + l2.length := by
  cases n1 <;> cases n2 <;> simp [s2L]
theorem scL_len {nv : Bool} {v m c : Int} {l : List Int} : (scL nv v m c l).length ≤ l.length + 1 := by
  cases nv
  · exact Nat.le_trans (greatL_len _ _) (by split <;> simp)
  · simp [scL]

theorem join_bundle {n1 n2 : Bool} {c1 c2 : Int} {l1 l2 av : List Int} (h1 : atE n1 c1 l1 av = 0) (h2 : atE n2 c2 l2 av = 0) (hl : l1.length + l2.length ≤ 100000) : ∃ (xn : Bool) (xc : Int) (xl : List Int),
    (∀ (W : World) (A1 A2 : Option Addr) (m1 k1 m2 k2 cap g : Nat), g = W.heap.size → RI .i64 W W.heap.size A1 m1 l1 → RI .i64 W W.heap.size A2 m2 l2 →
      Calls Try.prog 9 #[.slice (some ⟨g, 0, none⟩) 2 cap] (W.alloc (.cells #[.bool n1, .int .u8 c1, .slice A1 m1 k1, .bool n2, .int .u8 c2, .slice A2 m2 k2] 28)) (GivesTE xn xc xl 0 (W.alloc (.cells #[.bool n1, .int .u8 c1, .slice A1 m1 k1, .bool n2, .int .u8 c2, .slice A2 m2 k2] 28)))) ∧
    (∀ (W : World) (A G : Option Addr) (n k gn gc : Nat), RI .i64 W W.heap.size A n xl → RI .u8 W W.heap.size G gn av → gn ≤ 9223372036854775807 →
      Calls Try.prog 15 #[.agg #[.bool xn, .int .u8 xc, .slice A n k], .slice G gn gc] W (Tells2 (joinF [atR n1 c1 l1 av, atR n2 c2 l2 av]) 0 W)) := by
  obtain ⟨e1, e2⟩ := j2_at h1 h2
  refine ⟨_, _, _, fun W A1 A2 m1 k1 m2 k2 cap g hg r1 r2 => join2_ok n1 n2 c1 c2 A1 A2 m1 k1 m2 k2 cap g l1 l2 W hg r1 r2 (by have := r1.len; have := r2.len; omega) (at_zero h1).1 (at_zero h2).1, fun W A G n k gn gc r rg hm => ?_⟩
  have h := at_any (n1 && n2) (j2C n1 n2 c1 c2) A G n k gn gc (j2L n1 n2 c1 c2 l1 l2) av W r rg (by have := r.len; have := j2L_len (n1 := n1) (n2 := n2) (c1 := c1) (c2 := c2) (l1 := l1) (l2 := l2); omega) hm
  rw [e1, e2] at h
  exact h
theorem sum_bundle {n1 n2 : Bool} {c1 c2 : Int} {l1 l2 av : List Int} (h1 : atE n1 c1 l1 av = 0) (h2 : atE n2 c2 l2 av = 0) (hl : l1.length + l2.length ≤ 100000) : ∃ (xn : Bool) (xc : Int) (xl : List Int),
    (∀ (W : World) (A1 A2 : Option Addr) (m1 k1 m2 k2 cap g : Nat), g = W.heap.size → RI .i64 W W.heap.size A1 m1 l1 → RI .i64 W W.heap.size A2 m2 l2 →
      Calls Try.prog 10 #[.slice (some ⟨g, 0, none⟩) 2 cap] (W.alloc (.cells #[.bool n1, .int .u8 c1, .slice A1 m1 k1, .bool n2, .int .u8 c2, .slice A2 m2 k2] 28)) (GivesTE xn xc xl 0 (W.alloc (.cells #[.bool n1, .int .u8 c1, .slice A1 m1 k1, .bool n2, .int .u8 c2, .slice A2 m2 k2] 28)))) ∧
    (∀ (W : World) (A G : Option Addr) (n k gn gc : Nat), RI .i64 W W.heap.size A n xl → RI .u8 W W.heap.size G gn av → gn ≤ 9223372036854775807 →
      Calls Try.prog 15 #[.agg #[.bool xn, .int .u8 xc, .slice A n k], .slice G gn gc] W (Tells2 (sumF [atR n1 c1 l1 av, atR n2 c2 l2 av]) 0 W)) := by
  obtain ⟨e1, e2⟩ := s2_at h1 h2
  refine ⟨_, _, _, fun W A1 A2 m1 k1 m2 k2 cap g hg r1 r2 => sum2_ok n1 n2 c1 c2 A1 A2 m1 k1 m2 k2 cap g l1 l2 W hg r1 r2 (by have := r1.len; have := r2.len; omega) (at_zero h1).1 (at_zero h2).1, fun W A G n k gn gc r rg hm => ?_⟩
  have h := at_any (n1 && n2) (s2C n1 n2 c1 c2) A G n k gn gc (s2L n1 n2 l1 l2) av W r rg (by have := r.len; have := s2L_len (n1 := n1) (n2 := n2) (l1 := l1) (l2 := l2); omega) hm
  rw [e1, e2] at h
  exact h
theorem scale_bundle {nv : Bool} {v m c : Int} {l av : List Int} (hi : isB v m = true) (hv : m = 0 → okV av v = true) (h : atE nv c l av = 0) (hl : l.length ≤ 100000) : ∃ (xn : Bool) (xc : Int) (xl : List Int),
    (∀ (W : World) (A : Option Addr) (n k : Nat), RI .i64 W W.heap.size A n l →
      Calls Try.prog 23 #[.agg #[.int .i64 v, .int .u8 m], .agg #[.bool nv, .int .u8 c, .slice A n k]] W (GivesTE xn xc xl 0 W)) ∧
    (∀ (W : World) (A G : Option Addr) (n k gn gc : Nat), RI .i64 W W.heap.size A n xl → RI .u8 W W.heap.size G gn av → gn ≤ 9223372036854775807 →
      Calls Try.prog 15 #[.agg #[.bool xn, .int .u8 xc, .slice A n k], .slice G gn gc] W (Tells2 (scaleF (byF v m av) (atR nv c l av)) 0 W)) := by
  obtain ⟨e1, e2⟩ := sc_at hi hv h
  refine ⟨_, _, _, fun W A n k r => scaleT_yes v m nv c A n k l W r (by have := r.len; omega) hi (at_zero h).1, fun W A G n k gn gc r rg hm => ?_⟩
  have h := at_any nv (scC nv m c) A G n k gn gc (scL nv v m c l) av W r rg (by have := r.len; have := scL_len (nv := nv) (v := v) (m := m) (c := c) (l := l); omega) hm
  rw [e1, e2] at h
  exact h
theorem cells3r {w : World} {g : Nat} {t : TypeId} {x y z : Value} (h : w.heap[g]? = some (.cells #[x, y, z] t (0, 0))) :
    w.cell? ⟨g, 0, none⟩ = some x ∧ w.cell? ⟨g, 1, none⟩ = some y ∧ w.cell? ⟨g, 2, none⟩ = some z := by
  obtain ⟨a, b, c, _⟩ := cells3 h
  exact ⟨a, b, c⟩
/-- Two terms that are not great. -/
theorem great2_any (r q : Raw) (cap g : Nat) (W : World) (hg : g = W.heap.size) :
    Calls Try.prog 7 #[.slice (some ⟨g, 0, none⟩) 2 cap] (W.alloc (.cells #[.bool r.nv, .int .u8 r.c, .slice r.A r.n r.k, .bool q.nv, .int .u8 q.c, .slice q.A q.n q.k] 28)) fun e w' => e = .returned (.bool (greatB [r, q])) ∧ Bel (W.alloc (.cells #[.bool r.nv, .int .u8 r.c, .slice r.A r.n r.k, .bool q.nv, .int .u8 q.c, .slice q.A q.n q.k] 28)) w' := by
  subst hg
  exact great_any _ 2 cap _ _ ((rt_two W r q).more (by simp)) (by omega)
theorem great2_no {r q : Raw} (h : greatB [r, q] = false) : r.n ≤ 5000 ∧ q.n ≤ 5000 := by
  unfold greatB greatN at h
  rw [decide_eq_false_iff_not] at h
  simp only [List.map_cons, List.map_nil, List.sum_cons, List.sum_nil] at h
  constructor
  · split at h <;> split at h <;> omega
  · split at h <;> split at h <;> omega
end Go.Proofs.Ytfegoilgbjhhpaa.Mu
