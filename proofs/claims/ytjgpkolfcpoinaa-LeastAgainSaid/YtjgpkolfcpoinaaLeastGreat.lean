/-
  Holds, as the least solution's mathematics has it.
  What is more than is gone through; what LeastBelow's first loop asks.
-/
import Derived.Test.YtjgpkolfcpoinaaLeastWorks
namespace Go.Proofs.Ytjgpkolfcpoinaa.Mu
open Go

theorem none_idxF {p : Iq → Bool} : ∀ {xs : List Iq}, idxF p xs < 0 → ∀ x ∈ xs, p x = false
  | [], _, _, hx => by cases hx
  | y :: ys, h, x, hx => by
    have hge := idxF_ge p ys
    unfold idxF at h
    split at h
    · omega
    · rename_i hy
      split at h
      · rename_i h1
        rcases List.mem_cons.1 hx with rfl | hx
        · simpa using hy
        · exact none_idxF (by omega) x hx
      · omega
theorem may_cr {x : Iq} (h : x.may = true) : ((x.m = 0 ∧ 0 ≤ x.v) ∨ (1 ≤ x.m ∧ x.m ≤ 3)) ∧ 1 ≤ x.c ∧ x.c ≤ 3 ∧ -1 ≤ x.r := by
  unfold Iq.may mayI at h
  simp only [Bool.and_eq_true, decide_eq_true_eq] at h
  obtain ⟨⟨⟨hb, hc⟩, hr0⟩, _⟩ := h
  have hc' : 1 ≤ x.c ∧ x.c ≤ 3 := by simpa [isMultB] using hc
  refine ⟨?_, hc'.1, hc'.2, hr0⟩
  rcases isB_parts hb with ⟨e, v0, _⟩ | ⟨m1, m3, _⟩
  · exact .inl ⟨e, v0⟩
  · exact .inr ⟨m1, m3⟩
theorem bad_sat {S : List Int} {x : Iq} (h : x.may = true) : x.bad S = false ↔ SatQ S x := by
  obtain ⟨hm, c1, c3, r1⟩ := may_cr h
  unfold Iq.bad SatQ lft atS lcF lhB lvF rhB
  by_cases h0 : x.m = 0 <;> by_cases hr : x.r = -1 <;> simp [h0, hr] <;> omega
theorem stands_good {S : List Int} {x : Iq} (h : x.may = true) (hs : x.stands S = true) : GoodQ S.length x := by
  obtain ⟨hm, c1, c3, r1⟩ := may_cr h
  unfold Iq.stands standsB okV lhB lvF rhB at hs
  unfold GoodQ
  by_cases h0 : x.m = 0 <;> by_cases hr : x.r = -1 <;> simp [h0, hr] at hs ⊢ <;> omega
theorem good_stands {S : List Int} {x : Iq} (hg : GoodQ S.length x) (hS : ∀ v, v < S.length → 1 ≤ S[v]?.getD 0 ∧ S[v]?.getD 0 ≤ 3) : x.stands S = true := by
  have one : ∀ v : Int, 0 ≤ v → v < S.length → okV S v = true := fun v h0 h1 => by
    have := hS v.toNat (by omega)
    simp [okV, isMultB]
    omega
  obtain ⟨hm, _, hr⟩ := hg
  unfold Iq.stands standsB lhB lvF rhB
  by_cases h0 : x.m = 0
  · have h1 := one x.v (by rcases hm with h | h <;> omega) (by rcases hm with h | h <;> omega)
    by_cases h2 : x.r = -1
    · simp [h0, h1, h2]
    · simp [h0, h1, h2, one x.r (by omega) (by omega)]
  · by_cases h2 : x.r = -1
    · simp [h0, h2]
    · simp [h0, h2, one x.r (by omega) (by omega)]
theorem holds_parts {S : List Int} {xs : List Iq} (he : holdsE S xs = 0) (hn : holdsN S xs < 0) : ∀ x ∈ xs, x.may = true ∧ GoodQ S.length x ∧ SatQ S x := by
  unfold holdsE at he
  unfold holdsN at hn
  split at he
  · rename_i h1
    rw [if_pos h1] at hn
    split at he
    · rename_i h2
      rw [if_pos h2] at hn
      intro x hx
      have hm := List.all_eq_true.1 h1 x hx
      exact ⟨hm, stands_good hm (List.all_eq_true.1 h2 x hx), (bad_sat hm).1 (none_idxF hn x hx)⟩
    · cases he
  · cases he
theorem holds_of {S : List Int} {xs : List Iq} (hS : ∀ v, v < S.length → 1 ≤ S[v]?.getD 0 ∧ S[v]?.getD 0 ≤ 3) (h : ∀ x ∈ xs, x.may = true ∧ GoodQ S.length x ∧ SatQ S x) : holdsE S xs = 0 ∧ holdsN S xs = -1 := by
  have h1 : xs.all Iq.may = true := List.all_eq_true.2 fun x hx => (h x hx).1
  have h2 : xs.all (Iq.stands S) = true := List.all_eq_true.2 fun x hx => good_stands (h x hx).2.1 hS
  unfold holdsE holdsN
  rw [if_pos h1, if_pos h2, if_pos h1, if_pos h2]
  exact ⟨rfl, idxF_none (List.all_eq_true.2 fun x hx => by rw [(bad_sat (h x hx).1).2 (h x hx).2.2]; rfl)⟩
theorem mayF_ok {n : Nat} {low : List Int} {xs : List Iq} (hn : n ≤ 1048576) (hl : xs.length ≤ 1048576) (hlow : low.length = 0 ∨ low.length = n) (hm : ∀ m ∈ low, 1 ≤ m ∧ m ≤ 3) (hx : ∀ x ∈ xs, x.may = true ∧ GoodQ n x) : mayF n low xs = 0 := by
  unfold mayF
  rw [if_neg (by omega), if_neg (by omega), if_neg, if_neg]
  · intro h
    obtain ⟨x, hx1, hx2⟩ := List.any_eq_true.1 h
    obtain ⟨h1, h2, h3, h4⟩ := hx x hx1
    simp [badQ, h1] at hx2
    omega
  · intro h
    obtain ⟨m, hm1, hm2⟩ := List.any_eq_true.1 h
    have := hm m hm1
    simp [badM] at hm2
    omega
end Go.Proofs.Ytjgpkolfcpoinaa.Mu
namespace Go.Proofs.Ytjgpkolfcpoinaa.Mu
open Go.ChangeShapes Go.WideShapes Go.ChangeAt Go.RowKit Go.Shelf

attribute [local go_sem] Oper.semAt_some

theorem lgreat_any (n : Int) (G A : Option Addr) (ln lk len cap : Nat) (w : World) : Calls Try.prog 19 #[.int .i64 n, .slice G ln lk, .slice A len cap] w fun e w' => e = .returned (.bool (decide (200 < n) || decide (300 < ln) || decide (400 < len))) ∧ Bel w w' := by
  by_cases h1 : 200 < n
  · have e : (decide (200 < n) || decide (300 < ln) || decide (400 < len)) = true := by simp [h1]
    rw [e]
    go_enter Try.func19, Try.ntmps19
    go_wp2
    go_ret
    exact ⟨rfl, Bel.refl _⟩
  by_cases h2 : 300 < ln
  · have e : (decide (200 < n) || decide (300 < ln) || decide (400 < len)) = true := by simp [h2]
    rw [e]
    have h2' : (300 : Int) < (ln : Int) := by omega
    go_enter Try.func19, Try.ntmps19
    go_wp2
    go_ret
    exact ⟨rfl, Bel.refl _⟩
  have h2' : decide ((300 : Int) < (ln : Int)) = false := by simp; omega
  by_cases h3 : 400 < len
  · have e : (decide (200 < n) || decide (300 < ln) || decide (400 < len)) = true := by simp [h3]
    rw [e]
    have h3' : (400 : Int) < (len : Int) := by omega
    go_enter Try.func19, Try.ntmps19
    go_wp2
    go_ret
    exact ⟨rfl, Bel.refl _⟩
  have h3' : decide ((400 : Int) < (len : Int)) = false := by simp; omega
  have e : (decide (200 < n) || decide (300 < ln) || decide (400 < len)) = false := by simp [h1, h2, h3]
  rw [e]
  go_enter Try.func19, Try.ntmps19
  go_wp2
  go_ret
  exact ⟨rfl, Bel.refl _⟩

/-- What the first loop asks of one variable. -/
def passB (low av : List Int) (j : Nat) : Bool := decide (1 ≤ av[j]?.getD 0) && decide (av[j]?.getD 0 ≤ 3) && (decide (low.length = 0) || (decide (1 ≤ low[j]?.getD 0) && decide (low[j]?.getD 0 ≤ av[j]?.getD 0)))

end Go.Proofs.Ytjgpkolfcpoinaa.Mu

