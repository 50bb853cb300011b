/-
  Layer 3's functions: each, Fits.
-/
import Derived.Test.YtjgpkolfcpoinaaIneqC
namespace Go.Proofs.Ytjgpkolfcpoinaa.Mu
open Go.ChangeShapes Go.WideShapes Go.ChangeAt Go.RowKit

theorem RI.kp {kd : IntKind} {w w' : World} {B g base n : Nat} {A : Option Addr} {l : List Int} (h : RI kd w B A n l) (hB : B ≤ base) (hne : ∀ a, A = some a → 0 < n → a.block ≠ g) (hk : Kp g base w w') : RI kd w' B A n l :=
  ⟨h.1, fun hn => by
    obtain ⟨b, off, e, hb, hc⟩ := h.2 hn
    exact ⟨b, off, e, Nat.lt_of_lt_of_le hb (Nat.le_refl _), fun k hk' => (hk.cell (Nat.lt_of_lt_of_le hb hB) (hne _ e hn) _).trans (hc k hk')⟩⟩
def eachL (c : Int) (l : List Int) (b r : Int) : List Iq := layL 0 c b r ++ l.flatMap fun v => layL v 0 b r
theorem layL_len (v m b r : Int) : (layL v m b r).length ≤ 1 := by unfold layL; split <;> simp
theorem eachL_len (c : Int) (l : List Int) (b r : Int) : (eachL c l b r).length ≤ l.length + 1 := by
  unfold eachL
  have h0 := layL_len 0 c b r
  have : ∀ l : List Int, (l.flatMap fun v => layL v 0 b r).length ≤ l.length := by
    intro l
    induction l with
    | nil => simp
    | cons v l ih => have := layL_len v 0 b r; simp only [List.flatMap_cons, List.length_append, List.length_cons]; omega
  have := this l
  rw [List.length_append]
  omega
theorem eachL_snoc {c b r : Int} {l : List Int} {j : Nat} {v : Int} (h : l[j]? = some v) : eachL c (l.take (j + 1)) b r = eachL c (l.take j) b r ++ layL v 0 b r := by
  unfold eachL; rw [take_snoc_ h]; simp
theorem own_n {w : World} {base n c : Nat} {e : TypeId} {A : Option Addr} {xs : List Iq} (h : w.ownsRow base e 4 (.slice A n c) n (flatI xs)) : n = xs.length := by
  have h1 := h.1; rw [flatI_len] at h1; omega

theorem Kp.mono {g base base' : Nat} {w w' : World} (h : Kp g base w w') (hb : base' ≤ base) : Kp g base' w w' := ⟨h.os, h.tape, h.output, h.size, fun i hi hn => h.block i (by omega) hn⟩
theorem Kp.refl (g base : Nat) (w : World) : Kp g base w w := ⟨rfl, rfl, rfl, Nat.le_refl _, fun _ _ _ => rfl⟩
theorem own_less {w : World} {base base' e size n : Nat} {v : Value} {xs : List Value} (h : w.ownsRow base e size v n xs) (hb : base' ≤ base) : w.ownsRow base' e size v n xs := by
  obtain ⟨h1, h2⟩ := h
  refine ⟨h1, ?_⟩
  rcases h2 with h2 | ⟨g, cap, cur, a, b, c⟩
  · exact .inl h2
  · exact .inr ⟨g, cap, cur, a, Nat.le_trans hb b, c⟩
end Go.Proofs.Ytjgpkolfcpoinaa.Mu

