/-
  The statements' own first question of layer 2, and terms that a call lays down for a variadic one.
-/
import Derived.Test.YtghoipgldnfjoaaTermG
import Derived.Test.YtghoipgldnfjoaaTermE
namespace Go.Proofs.Ytghoipgldnfjoaa.Mu
open Go.ChangeShapes Go.WideShapes Go.ChangeAt Go.RowKit

/-- Two terms, as a variadic call lays them down. -/
theorem rt_two (w : World) (r q : Raw) : RT (w.alloc (.cells #[.bool r.nv, .int .u8 r.c, .slice r.A r.n r.k, .bool q.nv, .int .u8 q.c, .slice q.A q.n q.k] 33)) (w.heap.size + 1) (some ⟨w.heap.size, 0, none⟩) 2 [r, q] :=
  ⟨rfl, fun _ => ⟨_, 0, rfl, by omega, fun k x hx => by
    match k, hx with
    | 0, hx => simp at hx; subst hx; simp
    | 1, hx => simp at hx; subst hx; simp
    | k + 2, hx => simp at hx⟩⟩
theorem rt_one (w : World) (r : Raw) : RT (w.alloc (.cells #[.bool r.nv, .int .u8 r.c, .slice r.A r.n r.k] 33)) (w.heap.size + 1) (some ⟨w.heap.size, 0, none⟩) 1 [r] :=
  ⟨rfl, fun _ => ⟨_, 0, rfl, by omega, fun k x hx => by
    match k, hx with
    | 0, hx => simp at hx; subst hx; simp
    | k + 1, hx => simp at hx⟩⟩

/-- Join of two terms that lie in memory. -/
theorem join_two2 (n1 n2 : Bool) (c1 c2 : Int) (A1 A2 : Option Addr) (m1 k1 m2 k2 cap g : Nat) (l1 l2 : List Int) (w : World) (hg : g = w.heap.size) (h1 : RI .i64 w w.heap.size A1 m1 l1) (h2 : RI .i64 w w.heap.size A2 m2 l2) (hs : m1 + m2 ≤ 1000000) :
    Calls Try.prog 20 #[.slice (some ⟨g, 0, none⟩) 2 cap] (w.alloc (.cells #[.bool n1, .int .u8 c1, .slice A1 m1 k1, .bool n2, .int .u8 c2, .slice A2 m2 k2] 33))
      (if (mayB n1 c1 l1 && mayB n2 c2 l2) then GivesTE (decide ((leftT [⟨⟨n1, c1, A1, m1, k1⟩, l1⟩, ⟨⟨n2, c2, A2, m2, k2⟩, l2⟩]).length = 0)) (joinC [⟨⟨n1, c1, A1, m1, k1⟩, l1⟩, ⟨⟨n2, c2, A2, m2, k2⟩, l2⟩]) (joinL [⟨⟨n1, c1, A1, m1, k1⟩, l1⟩, ⟨⟨n2, c2, A2, m2, k2⟩, l2⟩]) 0 (w.alloc (.cells #[.bool n1, .int .u8 c1, .slice A1 m1 k1, .bool n2, .int .u8 c2, .slice A2 m2 k2] 33))
        else GivesTE false 0 [] 2 (w.alloc (.cells #[.bool n1, .int .u8 c1, .slice A1 m1 k1, .bool n2, .int .u8 c2, .slice A2 m2 k2] 33))) := by
  subst hg
  have hrt := (rt_two w ⟨n1, c1, A1, m1, k1⟩ ⟨n2, c2, A2, m2, k2⟩)
  have hl : Lies (w.alloc (.cells #[.bool n1, .int .u8 c1, .slice A1 m1 k1, .bool n2, .int .u8 c2, .slice A2 m2 k2] 33)) [⟨⟨n1, c1, A1, m1, k1⟩, l1⟩, ⟨⟨n2, c2, A2, m2, k2⟩, l2⟩] := by
    intro t ht
    simp at ht
    rcases ht with rfl | rfl
    · exact h1.alloc _
    · exact h2.alloc _
  have e1 := h1.len
  have e2 := h2.len
  have hlen : ∀ t ∈ ([⟨⟨n1, c1, A1, m1, k1⟩, l1⟩, ⟨⟨n2, c2, A2, m2, k2⟩, l2⟩] : List Tm), t.l.length ≤ 1000000000 := by
    intro t ht
    simp at ht
    rcases ht with rfl | rfl
    · show l1.length ≤ _; omega
    · show l2.length ≤ _; omega
  have hrt' : RT (w.alloc (.cells #[.bool n1, .int .u8 c1, .slice A1 m1 k1, .bool n2, .int .u8 c2, .slice A2 m2 k2] 33)) (w.alloc (.cells #[.bool n1, .int .u8 c1, .slice A1 m1 k1, .bool n2, .int .u8 c2, .slice A2 m2 k2] 33)).heap.size (some ⟨w.heap.size, 0, none⟩) 2 (raws [⟨⟨n1, c1, A1, m1, k1⟩, l1⟩, ⟨⟨n2, c2, A2, m2, k2⟩, l2⟩]) := hrt.more (by simp)
  rcases Bool.eq_false_or_eq_true (mayB n1 c1 l1 && mayB n2 c2 l2) with hm | hm
  · rw [if_pos hm]
    exact join_yes _ 2 cap _ _ hrt' hl (by omega) hlen (by simp [varsT]; omega) (by simpa [mayT] using hm)
  · rw [if_neg (by rw [hm]; simp)]
    exact join_no _ 2 cap _ _ hrt' hl (by omega) hlen (by simpa [mayT] using hm)

theorem sum_two2 (n1 n2 : Bool) (c1 c2 : Int) (A1 A2 : Option Addr) (m1 k1 m2 k2 cap g : Nat) (l1 l2 : List Int) (w : World) (hg : g = w.heap.size) (h1 : RI .i64 w w.heap.size A1 m1 l1) (h2 : RI .i64 w w.heap.size A2 m2 l2) (hs : m1 + m2 ≤ 1000000) :
    Calls Try.prog 21 #[.slice (some ⟨g, 0, none⟩) 2 cap] (w.alloc (.cells #[.bool n1, .int .u8 c1, .slice A1 m1 k1, .bool n2, .int .u8 c2, .slice A2 m2 k2] 33))
      (if (mayB n1 c1 l1 && mayB n2 c2 l2) then GivesTE (decide ((leftT [⟨⟨n1, c1, A1, m1, k1⟩, l1⟩, ⟨⟨n2, c2, A2, m2, k2⟩, l2⟩]).length = 0)) (sumC [⟨⟨n1, c1, A1, m1, k1⟩, l1⟩, ⟨⟨n2, c2, A2, m2, k2⟩, l2⟩]) (sumL [⟨⟨n1, c1, A1, m1, k1⟩, l1⟩, ⟨⟨n2, c2, A2, m2, k2⟩, l2⟩]) 0 (w.alloc (.cells #[.bool n1, .int .u8 c1, .slice A1 m1 k1, .bool n2, .int .u8 c2, .slice A2 m2 k2] 33))
        else GivesTE false 0 [] 2 (w.alloc (.cells #[.bool n1, .int .u8 c1, .slice A1 m1 k1, .bool n2, .int .u8 c2, .slice A2 m2 k2] 33))) := by
  subst hg
  have hrt := (rt_two w ⟨n1, c1, A1, m1, k1⟩ ⟨n2, c2, A2, m2, k2⟩)
  have hl : Lies (w.alloc (.cells #[.bool n1, .int .u8 c1, .slice A1 m1 k1, .bool n2, .int .u8 c2, .slice A2 m2 k2] 33)) [⟨⟨n1, c1, A1, m1, k1⟩, l1⟩, ⟨⟨n2, c2, A2, m2, k2⟩, l2⟩] := by
    intro t ht
    simp at ht
    rcases ht with rfl | rfl
    · exact h1.alloc _
    · exact h2.alloc _
  have e1 := h1.len
  have e2 := h2.len
  have hlen : ∀ t ∈ ([⟨⟨n1, c1, A1, m1, k1⟩, l1⟩, ⟨⟨n2, c2, A2, m2, k2⟩, l2⟩] : List Tm), t.l.length ≤ 1000000000 := by
    intro t ht
    simp at ht
    rcases ht with rfl | rfl
    · show l1.length ≤ _; omega
    · show l2.length ≤ _; omega
  have hrt' : RT (w.alloc (.cells #[.bool n1, .int .u8 c1, .slice A1 m1 k1, .bool n2, .int .u8 c2, .slice A2 m2 k2] 33)) (w.alloc (.cells #[.bool n1, .int .u8 c1, .slice A1 m1 k1, .bool n2, .int .u8 c2, .slice A2 m2 k2] 33)).heap.size (some ⟨w.heap.size, 0, none⟩) 2 (raws [⟨⟨n1, c1, A1, m1, k1⟩, l1⟩, ⟨⟨n2, c2, A2, m2, k2⟩, l2⟩]) := hrt.more (by simp)
  rcases Bool.eq_false_or_eq_true (mayB n1 c1 l1 && mayB n2 c2 l2) with hm | hm
  · rw [if_pos hm]
    exact sum_yes _ 2 cap _ _ hrt' hl (by omega) hlen (by simpa [mayT] using hm)
  · rw [if_neg (by rw [hm]; simp)]
    exact sum_no _ 2 cap _ _ hrt' hl (by omega) hlen (by simpa [mayT] using hm)

def j2C (n1 n2 : Bool) (c1 c2 : Int) : Int := if n1 then (if n2 then 0 else max 2 c2) else (if n2 then max 2 c1 else max (max 1 c1) c2)
def j2L (n1 n2 : Bool) (c1 c2 : Int) (l1 l2 : List Int) : List Int := if n1 then (if n2 then [] else greatL (max 2 c2) l2) else (if n2 then greatL (max 2 c1) l1 else greatL (max (max 1 c1) c2) (l1 ++ l2))
def s2C (n1 n2 : Bool) (c1 c2 : Int) : Int := if n1 then (if n2 then 0 else c2) else (if n2 then c1 else 3)
def s2L (n1 n2 : Bool) (l1 l2 : List Int) : List Int := if n1 then (if n2 then [] else l2) else (if n2 then l1 else [])

theorem j2_eq (n1 n2 : Bool) (c1 c2 : Int) (A1 A2 : Option Addr) (m1 k1 m2 k2 : Nat) (l1 l2 : List Int) :
    decide ((leftT [⟨⟨n1, c1, A1, m1, k1⟩, l1⟩, ⟨⟨n2, c2, A2, m2, k2⟩, l2⟩]).length = 0) = (n1 && n2) ∧ joinC [⟨⟨n1, c1, A1, m1, k1⟩, l1⟩, ⟨⟨n2, c2, A2, m2, k2⟩, l2⟩] = j2C n1 n2 c1 c2 ∧ joinL [⟨⟨n1, c1, A1, m1, k1⟩, l1⟩, ⟨⟨n2, c2, A2, m2, k2⟩, l2⟩] = j2L n1 n2 c1 c2 l1 l2 ∧
    sumC [⟨⟨n1, c1, A1, m1, k1⟩, l1⟩, ⟨⟨n2, c2, A2, m2, k2⟩, l2⟩] = s2C n1 n2 c1 c2 ∧ sumL [⟨⟨n1, c1, A1, m1, k1⟩, l1⟩, ⟨⟨n2, c2, A2, m2, k2⟩, l2⟩] = s2L n1 n2 l1 l2 := by
  cases n1 <;> cases n2 <;> simp [leftT, joinC, joinL, sumC, sumL, j2C, j2L, s2C, s2L, maxC, varsT]

theorem join2_ok (n1 n2 : Bool) (c1 c2 : Int) (A1 A2 : Option Addr) (m1 k1 m2 k2 cap g : Nat) (l1 l2 : List Int) (w : World) (hg : g = w.heap.size) (h1 : RI .i64 w w.heap.size A1 m1 l1) (h2 : RI .i64 w w.heap.size A2 m2 l2) (hs : m1 + m2 ≤ 1000000) (y1 : mayB n1 c1 l1 = true) (y2 : mayB n2 c2 l2 = true) :
    Calls Try.prog 20 #[.slice (some ⟨g, 0, none⟩) 2 cap] (w.alloc (.cells #[.bool n1, .int .u8 c1, .slice A1 m1 k1, .bool n2, .int .u8 c2, .slice A2 m2 k2] 33))
      (GivesTE (n1 && n2) (j2C n1 n2 c1 c2) (j2L n1 n2 c1 c2 l1 l2) 0 (w.alloc (.cells #[.bool n1, .int .u8 c1, .slice A1 m1 k1, .bool n2, .int .u8 c2, .slice A2 m2 k2] 33))) := by
  have h := join_two2 n1 n2 c1 c2 A1 A2 m1 k1 m2 k2 cap g l1 l2 w hg h1 h2 hs
  rw [if_pos (by rw [y1, y2]; rfl)] at h
  obtain ⟨e1, e2, e3, _, _⟩ := j2_eq n1 n2 c1 c2 A1 A2 m1 k1 m2 k2 l1 l2
  rwa [e1, e2, e3] at h
theorem join2_no (n1 n2 : Bool) (c1 c2 : Int) (A1 A2 : Option Addr) (m1 k1 m2 k2 cap g : Nat) (l1 l2 : List Int) (w : World) (hg : g = w.heap.size) (h1 : RI .i64 w w.heap.size A1 m1 l1) (h2 : RI .i64 w w.heap.size A2 m2 l2) (hs : m1 + m2 ≤ 1000000) (y : (mayB n1 c1 l1 && mayB n2 c2 l2) = false) :
    Calls Try.prog 20 #[.slice (some ⟨g, 0, none⟩) 2 cap] (w.alloc (.cells #[.bool n1, .int .u8 c1, .slice A1 m1 k1, .bool n2, .int .u8 c2, .slice A2 m2 k2] 33))
      (GivesTE false 0 [] 2 (w.alloc (.cells #[.bool n1, .int .u8 c1, .slice A1 m1 k1, .bool n2, .int .u8 c2, .slice A2 m2 k2] 33))) := by
  have h := join_two2 n1 n2 c1 c2 A1 A2 m1 k1 m2 k2 cap g l1 l2 w hg h1 h2 hs
  rwa [if_neg (by rw [y]; simp)] at h
theorem sum2_ok (n1 n2 : Bool) (c1 c2 : Int) (A1 A2 : Option Addr) (m1 k1 m2 k2 cap g : Nat) (l1 l2 : List Int) (w : World) (hg : g = w.heap.size) (h1 : RI .i64 w w.heap.size A1 m1 l1) (h2 : RI .i64 w w.heap.size A2 m2 l2) (hs : m1 + m2 ≤ 1000000) (y1 : mayB n1 c1 l1 = true) (y2 : mayB n2 c2 l2 = true) :
    Calls Try.prog 21 #[.slice (some ⟨g, 0, none⟩) 2 cap] (w.alloc (.cells #[.bool n1, .int .u8 c1, .slice A1 m1 k1, .bool n2, .int .u8 c2, .slice A2 m2 k2] 33))
      (GivesTE (n1 && n2) (s2C n1 n2 c1 c2) (s2L n1 n2 l1 l2) 0 (w.alloc (.cells #[.bool n1, .int .u8 c1, .slice A1 m1 k1, .bool n2, .int .u8 c2, .slice A2 m2 k2] 33))) := by
  have h := sum_two2 n1 n2 c1 c2 A1 A2 m1 k1 m2 k2 cap g l1 l2 w hg h1 h2 hs
  rw [if_pos (by rw [y1, y2]; rfl)] at h
  obtain ⟨e1, _, _, e4, e5⟩ := j2_eq n1 n2 c1 c2 A1 A2 m1 k1 m2 k2 l1 l2
  rwa [e1, e4, e5] at h
theorem sum2_no (n1 n2 : Bool) (c1 c2 : Int) (A1 A2 : Option Addr) (m1 k1 m2 k2 cap g : Nat) (l1 l2 : List Int) (w : World) (hg : g = w.heap.size) (h1 : RI .i64 w w.heap.size A1 m1 l1) (h2 : RI .i64 w w.heap.size A2 m2 l2) (hs : m1 + m2 ≤ 1000000) (y : (mayB n1 c1 l1 && mayB n2 c2 l2) = false) :
    Calls Try.prog 21 #[.slice (some ⟨g, 0, none⟩) 2 cap] (w.alloc (.cells #[.bool n1, .int .u8 c1, .slice A1 m1 k1, .bool n2, .int .u8 c2, .slice A2 m2 k2] 33))
      (GivesTE false 0 [] 2 (w.alloc (.cells #[.bool n1, .int .u8 c1, .slice A1 m1 k1, .bool n2, .int .u8 c2, .slice A2 m2 k2] 33))) := by
  have h := sum_two2 n1 n2 c1 c2 A1 A2 m1 k1 m2 k2 cap g l1 l2 w hg h1 h2 hs
  rwa [if_neg (by rw [y]; simp)] at h
end Go.Proofs.Ytghoipgldnfjoaa.Mu
