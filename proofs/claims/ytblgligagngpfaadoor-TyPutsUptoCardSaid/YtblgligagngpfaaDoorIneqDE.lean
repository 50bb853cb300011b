/-
  Layer 3's functions: each, Fits.
  Layer 3's functions: Fits.
-/
import Derived.Test.YtblgligagngpfaaDoorIneqC
namespace Go.Proofs.YtblgligagngpfaaDoor.Mu
open Go.ChangeShapes Go.WideShapes Go.ChangeAt Go.RowKit

theorem RI.kp {kd : IntKind} {w w' : World} {B g base n : Nat} {A : Option Addr} {l : List Int} (h : RI kd w B A n l) (hB : B ≤ base) (hne : ∀ a, A = some a → 0 < n → a.block ≠ g) (hk : Kp g base w w') : RI kd w' B A n l :=
  ⟨h.1, fun hn => by
    obtain ⟨b, off, e, hb, hc⟩ := h.2 hn
    exact ⟨b, off, e, Nat.lt_of_lt_of_le hb (Nat.le_refl _), fun k hk' => (hk.cell (Nat.lt_of_lt_of_le hb hB) (hne _ e hn) _).trans (hc k hk')⟩⟩
def eachL (c : Int) (l : List Int) (b r : Int) : List Iq := layL 0 c b r ++ l.flatMap fun v => layL v 0 b r
theorem layL_len (v m b r : Int) : (layL v m b r).length ≤ 1 := by unfold layL; split <;> simp
theorem eachL_len (c : Int) (l : List Int) (b r : Int) : (eachL c l b r).length ≤ l.length + 1 := by
  unfold eachL
  have h0 := layL_len 0 c b r
  have : ∀ l : List Int, (l.flatMap fun v => layL v 0 b r).length ≤ l.length := by
    intro l
    induction l with
    | nil => simp
    | cons v l ih => have := layL_len v 0 b r; simp only [List.flatMap_cons, List.length_append, List.length_cons]; omega
  have := this l
  rw [List.length_append]
  omega
theorem eachL_snoc {c b r : Int} {l : List Int} {j : Nat} {v : Int} (h : l[j]? = some v) : eachL c (l.take (j + 1)) b r = eachL c (l.take j) b r ++ layL v 0 b r := by
  unfold eachL; rw [take_snoc_ h]; simp
theorem own_n {w : World} {base n c : Nat} {e : TypeId} {A : Option Addr} {xs : List Iq} (h : w.ownsRow base e 4 (.slice A n c) n (flatI xs)) : n = xs.length := by
  have h1 := h.1; rw [flatI_len] at h1; omega

theorem Kp.mono {g base base' : Nat} {w w' : World} (h : Kp g base w w') (hb : base' ≤ base) : Kp g base' w w' := ⟨h.os, h.tape, h.output, h.size, fun i hi hn => h.block i (by omega) hn⟩
theorem Kp.refl (g base : Nat) (w : World) : Kp g base w w := ⟨rfl, rfl, rfl, Nat.le_refl _, fun _ _ _ => rfl⟩
theorem own_less {w : World} {base base' e size n : Nat} {v : Value} {xs : List Value} (h : w.ownsRow base e size v n xs) (hb : base' ≤ base) : w.ownsRow base' e size v n xs := by
  obtain ⟨h1, h2⟩ := h
  refine ⟨h1, ?_⟩
  rcases h2 with h2 | ⟨g, cap, cur, a, b, c⟩
  · exact .inl h2
  · exact .inr ⟨g, cap, cur, a, Nat.le_trans hb b, c⟩
end Go.Proofs.YtblgligagngpfaaDoor.Mu
namespace Go.Proofs.YtblgligagngpfaaDoor.Mu
open Go.ChangeShapes Go.WideShapes Go.ChangeAt Go.RowKit

/-- A slice value reads as a list of inequalities. -/
def RQ (w : World) (B : Nat) (A : Option Addr) (n : Nat) (xs : List Iq) : Prop :=
  n = xs.length ∧ (0 < n → ∃ b off, A = some ⟨b, off, none⟩ ∧ b < B ∧ ∀ (k : Nat) (x : Iq), xs[k]? = some x → w.cell? ⟨b, off + k * 4, none⟩ = some (.int .i64 x.v) ∧ w.cell? ⟨b, off + k * 4 + 1, none⟩ = some (.int .u8 x.m) ∧ w.cell? ⟨b, off + k * 4 + 2, none⟩ = some (.int .u8 x.c) ∧ w.cell? ⟨b, off + k * 4 + 3, none⟩ = some (.int .i64 x.r))
section
variable {w w' : World} {B B' n : Nat} {A : Option Addr} {xs : List Iq}
theorem RQ.nil_ : RQ w B A 0 [] := ⟨rfl, fun h => absurd h (by omega)⟩
theorem RQ.len (h : RQ w B A n xs) : n = xs.length := h.1
theorem RQ.at_ (h : RQ w B A n xs) (hn : 0 < n) : ∃ b off, A = some ⟨b, off, none⟩ ∧ b < B ∧ ∀ (k : Nat) (x : Iq), xs[k]? = some x → w.cell? ⟨b, off + k * 4, none⟩ = some (.int .i64 x.v) ∧ w.cell? ⟨b, off + k * 4 + 1, none⟩ = some (.int .u8 x.m) ∧ w.cell? ⟨b, off + k * 4 + 2, none⟩ = some (.int .u8 x.c) ∧ w.cell? ⟨b, off + k * 4 + 3, none⟩ = some (.int .i64 x.r) := h.2 hn
theorem RQ.keep (h : RQ w B A n xs) (hk : ∀ b o, b < B → w'.cell? ⟨b, o, none⟩ = w.cell? ⟨b, o, none⟩) : RQ w' B A n xs :=
  ⟨h.1, fun hn => by
    obtain ⟨b, off, e, hb, hc⟩ := h.2 hn
    exact ⟨b, off, e, hb, fun k x hx => by rw [hk _ _ hb, hk _ _ hb, hk _ _ hb, hk _ _ hb]; exact hc k x hx⟩⟩
theorem RQ.more (h : RQ w B A n xs) (hB : B ≤ B') : RQ w B' A n xs :=
  ⟨h.1, fun hn => by
    obtain ⟨b, off, e, hb, hc⟩ := h.2 hn
    exact ⟨b, off, e, by omega, hc⟩⟩
theorem RQ.bel (h : RQ w w.heap.size A n xs) (hb : Bel w w') : RQ w' w'.heap.size A n xs := (h.keep fun b o hp => hb.cell (p := ⟨b, o, none⟩) hp).more hb.size
theorem flatI_get : ∀ (xs : List Iq) (k : Nat) (x : Iq), xs[k]? = some x → (flatI xs)[k * 4]? = some (.int .i64 x.v) ∧ (flatI xs)[k * 4 + 1]? = some (.int .u8 x.m) ∧ (flatI xs)[k * 4 + 2]? = some (.int .u8 x.c) ∧ (flatI xs)[k * 4 + 3]? = some (.int .i64 x.r)
  | [], k, x, h => by simp at h
  | y :: xs, 0, x, h => by
    simp at h; subst h
    simp [flatI, Iq.cells]
  | y :: xs, k + 1, x, h => by
    have ih := flatI_get xs k x (by simpa using h)
    have e : flatI (y :: xs) = y.cells ++ flatI xs := by simp [flatI]
    have hl : y.cells.length = 4 := rfl
    rw [e]
    refine ⟨?_, ?_, ?_, ?_⟩
    · rw [List.getElem?_append_right (by omega), hl, show (k + 1) * 4 - 4 = k * 4 by omega]; exact ih.1
    · rw [List.getElem?_append_right (by omega), hl, show (k + 1) * 4 + 1 - 4 = k * 4 + 1 by omega]; exact ih.2.1
    · rw [List.getElem?_append_right (by omega), hl, show (k + 1) * 4 + 2 - 4 = k * 4 + 2 by omega]; exact ih.2.2.1
    · rw [List.getElem?_append_right (by omega), hl, show (k + 1) * 4 + 3 - 4 = k * 4 + 3 by omega]; exact ih.2.2.2
theorem RQ.of_own {base c : Nat} {e : TypeId} (h : w.ownsRow base e 4 (.slice A n c) n (flatI xs)) : RQ w w.heap.size A n xs := by
  refine ⟨own_n h, fun hn => ?_⟩
  obtain ⟨g, cap, hv, _, hlt⟩ := h.form hn
  have hA : A = some ⟨g, 0, none⟩ := by injection hv
  subst hA
  refine ⟨g, 0, rfl, hlt, fun k x hx => ?_⟩
  obtain ⟨a0, a1, a2, a3⟩ := flatI_get xs k x hx
  have c0 := h.cells (g := g) rfl _ _ a0
  have c1 := h.cells (g := g) rfl _ _ a1
  have c2 := h.cells (g := g) rfl _ _ a2
  have c3 := h.cells (g := g) rfl _ _ a3
  rw [Addr.add_lit] at c0 c1 c2 c3
  exact ⟨c0, by rw [Nat.add_assoc]; exact c1, by rw [Nat.add_assoc]; exact c2, by rw [Nat.add_assoc]; exact c3⟩
end
/-- It tells a list of inequalities, and an error. -/
def GivesQ (xs : List Iq) (x : Int) (w : World) (e : Ending) (w' : World) : Prop :=
  ∃ A n k, e = .returned (.tuple #[.slice A n k, .int .i64 x]) ∧ RQ w' w'.heap.size A n xs ∧ Bel w w'
def bndF (v m : Int) : Int := if m = 0 then v else -1
def fitsL (nv : Bool) (c : Int) (l : List Int) (g v m : Int) : List Iq := eachL (leastC nv c) (leastL nv l) (max g m) (bndF v m)

theorem leastL_len (nv : Bool) (l : List Int) : (leastL nv l).length ≤ l.length := by unfold leastL; cases nv <;> simp
end Go.Proofs.YtblgligagngpfaaDoor.Mu

