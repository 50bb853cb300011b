/-
  Layer 3's functions: each, Fits.
-/
import Derived.Test.YteegoecanbonoaaDoorIneqC
namespace Go.Proofs.YteegoecanbonoaaDoor.Mu
open Go.ChangeShapes Go.WideShapes Go.ChangeAt Go.RowKit

theorem RI.kp {kd : IntKind} {w w' : World} {B g base n : Nat} {A : Option Addr} {l : List Int} (h : RI kd w B A n l) (hB : B ≤ base) (hne : ∀ a, A = some a → 0 < n → a.block ≠ g) (hk : Kp g base w w') : RI kd w' B A n l :=
  ⟨h.1, fun hn => by
    obtain ⟨b, off, e, hb, hc⟩ := h.2 hn
    exact ⟨b, off, e, Nat.lt_of_lt_of_le hb (Nat.le_refl _), fun k hk' => (hk.cell (Nat.lt_of_lt_of_le hb hB) (hne _ e hn) _).trans (hc k hk')⟩⟩
def eachL (c : Int) (l : List Int) (b r : Int) : List Iq := layL 0 c b r ++ l.flatMap fun v => layL v 0 b r
theorem layL_len (v m b r : Int) : (layL v m b r).length ≤ 1 := by unfold layL; split <;> simp
theorem eachL_len (c : Int) (l : List Int) (b r : Int) : (eachL c l b r).length ≤ l.length + 1 := by
  unfold eachL
  have h0 := layL_len 0 c b r
  have : ∀ l : List Int, (l.flatMap fun v => layL v 0 b r).length ≤ l.length := by
    intro l
    induction l with
    | nil => simp
    | cons v l ih => have := layL_len v 0 b r; simp only [List.flatMap_cons, List.length_append, List.length_cons]; omega
  have := this l
  rw [List.length_append]
  omega
theorem eachL_snoc {c b r : Int} {l : List Int} {j : Nat} {v : Int} (h : l[j]? = some v) : eachL c (l.take (j + 1)) b r = eachL c (l.take j) b r ++ layL v 0 b r := by
  unfold eachL; rw [take_snoc_ h]; simp
theorem own_n {w : World} {base n c : Nat} {e : TypeId} {A : Option Addr} {xs : List Iq} (h : w.ownsRow base e 4 (.slice A n c) n (flatI xs)) : n = xs.length := by
  have h1 := h.1; rw [flatI_len] at h1; omega

theorem Kp.mono {g base base' : Nat} {w w' : World} (h : Kp g base w w') (hb : base' ≤ base) : Kp g base' w w' := ⟨h.os, h.tape, h.output, h.size, fun i hi hn => h.block i (by omega) hn⟩
theorem Kp.refl (g base : Nat) (w : World) : Kp g base w w := ⟨rfl, rfl, rfl, Nat.le_refl _, fun _ _ _ => rfl⟩
theorem own_less {w : World} {base base' e size n : Nat} {v : Value} {xs : List Value} (h : w.ownsRow base e size v n xs) (hb : base' ≤ base) : w.ownsRow base' e size v n xs := by
  obtain ⟨h1, h2⟩ := h
  refine ⟨h1, ?_⟩
  rcases h2 with h2 | ⟨g, cap, cur, a, b, c⟩
  · exact .inl h2
  · exact .inr ⟨g, cap, cur, a, Nat.le_trans hb b, c⟩
set_option maxRecDepth 100000 in
set_option maxHeartbeats 2000000 in
theorem each_any (g : Nat) (b r : Int) (nv : Bool) (c : Int) (A : Option Addr) (n k : Nat) (l : List Int) (w : World) (hg : w.heap[g]? = some (.cells #[.int .u8 b, .int .i64 r, .slice none 0 0] 94 (0, 0)))
    (hr : RI .i64 w w.heap.size A n l) (hne : ∀ a, A = some a → 0 < n → a.block ≠ g) (hmax : n ≤ 10000) :
    Calls Tryd.prog 67 #[.agg #[.bool nv, .int .u8 c, .slice A n k], .func (.func 69) #[.pointer (some ⟨g, 0, none⟩)] #[]] w (Laid g w.heap.size b r (eachL c l b r) w) := by
  have HG := Lib.hid hg
  have HR := Lib.hid hr
  have HNE := Lib.hid hne
  have HL := Lib.hid hr.len
  have hgw : g < w.heap.size := (Array.getElem?_eq_some_iff.1 hg).1
  clear hg hr hne
  go_enter Tryd.func67, Tryd.ntmps67
  go_wp2_with fail
  refine (lay_any g (w.heap.size + 1) b r none 0 0 [] 0 c _ (((Bel.refl w).alloc _).blk HG.out) (World.ownsRow_nil _ _ _ _) (by omega) (by omega) (by simp)).mono ?_
  rintro e w1 ⟨A1, n1, k1, rfl, hg1, hown1, hk1⟩
  have HG1 := Lib.hid hg1
  have HO1 := Lib.hid hown1
  have HK1 := Lib.hid hk1
  obtain ⟨b0, b1, b2, _, _, _⟩ := cells3 ((hk1.block w.heap.size (by omega) (by omega)).trans (blk1 w _))
  have HW1 : Hid (w.heap.size + 1 ≤ w1.heap.size) := Lib.hid (by have := hk1.size; simpa using this)
  clear hg1 hown1 hk1
  go_wp2
  clear b0 b1 b2
  go_loopw [14] (fun si wr => ∃ (j n2 k2 : Nat) (A2 : Option Addr), j ≤ n ∧ si = .int .i64 j ∧ Hid (wr.heap[g]? = some (.cells #[.int .u8 b, .int .i64 r, .slice A2 n2 k2] 94 (0, 0))) ∧ Hid (wr.ownsRow (w.heap.size + 1) 50 4 (.slice A2 n2 k2) n2 (flatI (eachL c (l.take j) b r))) ∧ Hid (Kp g (w.heap.size + 1) w1 wr)) (fun i _ => n - (intOf i).toNat)
  case atStart => exact ⟨0, n1, k1, A1, Nat.zero_le _, rfl, HG1, Lib.hid (by have h := HO1.out; simpa [eachL] using h), Lib.hid (Kp.refl _ _ _)⟩
  case round =>
    obtain ⟨j, n2, k2, A2, hj, rfl, HG2, HO2, HK2⟩ := hrel
    have HKW : Hid (Kp g w.heap.size w wr) := Lib.hid ((Kp.of_bel ((Bel.refl w).alloc _) (Nat.le_refl _)).on ((HK1.out.mono (Nat.le_succ _)).on (HK2.out.mono (Nat.le_succ _))))
    by_cases hlt : j < n
    · obtain ⟨b', off, eA, hb, hc⟩ := (RI.kp HR.out (Nat.le_refl _) HNE.out HKW.out).at_ (by omega)
      obtain ⟨v, hvk⟩ : ∃ v, l[j]? = some v := ⟨_, List.getElem?_eq_getElem (by rw [← HL.out]; exact hlt)⟩
      have hcell := hc j hlt
      rw [hvk] at hcell
      simp only [Option.getD_some] at hcell
      have HK := Lib.hid hvk
      have HN2 : Hid (n2 ≤ 20000) := Lib.hid (by
        have h1 := own_n HO2.out
        have h2 := eachL_len c (l.take j) b r
        have h3 : (l.take j).length ≤ j := List.length_take_le _ _
        omega)
      have HW2 : Hid (w.heap.size + 1 ≤ wr.heap.size) := Lib.hid (Nat.le_trans HW1.out HK2.out.size)
      subst eA
      clear hc hvk
      go_wp2_with fail
      refine (lay_any g (w.heap.size + 1) b r A2 n2 k2 (eachL c (l.take j) b r) v 0 _ HG2.out HO2.out (by have := HN2.out; omega) (by omega) HW2.out).mono ?_
      rintro e w3 ⟨A3, n3, k3, rfl, hg3, hown3, hk3⟩
      have HG3 := Lib.hid hg3
      have HO3 := Lib.hid hown3
      have HK3 := Lib.hid (HK2.out.on hk3)
      clear hg3 hown3 hk3
      go_wp2_with fail
      go_roundw
      case rel => exact ⟨j + 1, n3, k3, A3, by omega, by go_num, HG3, Lib.hid (by rw [eachL_snoc HK.out]; exact HO3.out), HK3⟩
      case measure => simp [intOf]; omega
    · obtain rfl : j = n := by omega
      have e : l.take j = l := by rw [HL.out]; exact List.take_length
      rw [e] at HO2
      clear e
      go_wp2
      go_end0
      exact ⟨A2, n2, k2, rfl, HG2.out, own_less HO2.out (Nat.le_succ _), HKW.out⟩
end Go.Proofs.YteegoecanbonoaaDoor.Mu
