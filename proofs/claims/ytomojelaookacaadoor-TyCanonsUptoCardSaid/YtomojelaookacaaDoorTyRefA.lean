/-
  The reference's Size.
-/
import Derived.Test.YtomojelaookacaaDoorTyPuta
namespace Go.Proofs.YtomojelaookacaaDoor.Mu
open Go.ChangeShapes Go.WideShapes Go.ChangeAt Go.RowKit Go.Shelf

attribute [local go_sem] Oper.semAt_some
set_option linter.unusedVariables false

/-- How many nodes the first ones have. -/
def Fo.upto : Fo → Nat → Nat
  | .nil, _ => 0
  | .cons _ _ _ _ _ _, 0 => 0
  | .cons _ _ _ _ kids rest, j + 1 => 1 + kids.size + rest.upto j
theorem Fo.upto_succ : ∀ (f : Fo) (j : Nat), j < f.len → f.upto (j + 1) = f.upto j + (f.nth j).size
  | .nil, j, h => by simp [Fo.len] at h
  | .cons k n v c kids rest, 0, _ => by cases rest <;> simp [Fo.upto, Fo.nth, Fo.size]
  | .cons k n v c kids rest, j + 1, h => by
    have := Fo.upto_succ rest j (by simp only [Fo.len] at h; omega)
    simp only [Fo.upto, Fo.nth] at this ⊢
    rw [this]
    omega
theorem Fo.upto_zero (f : Fo) : f.upto 0 = 0 := by cases f <;> rfl
theorem Fo.upto_all : ∀ f : Fo, f.upto f.len = f.size
  | .nil => rfl
  | .cons k n v c kids rest => by
    simp only [Fo.len, Fo.size, Nat.add_comm 1, Fo.upto, Fo.upto_all rest]
theorem Fo.upto_le : ∀ (f : Fo) (j : Nat), f.upto j ≤ f.size
  | .nil, j => by simp [Fo.upto]
  | .cons k n v c kids rest, 0 => by simp [Fo.upto]
  | .cons k n v c kids rest, j + 1 => by
    have := Fo.upto_le rest j
    simp only [Fo.upto, Fo.size]
    omega
set_option maxRecDepth 100000 in
set_option maxHeartbeats 1000000 in
theorem rsize_any (N : Nat) : ∀ (k n v c : Int) (A : Option Addr) (len cap : Nat) (kids : Fo) (w : World), kids.size = N → KidsAt w (Old w) A len cap kids → kids.size ≤ 1400000 →
    Calls Tryd.prog 19 #[.agg #[.int .u8 k, .int .i64 n, .int .i64 v, .int .u8 c, .slice A len cap]] w fun e w' => e = .returned (.int .i64 ((1 + kids.size : Nat) : Int)) ∧ Bel w w' := by
  induction N using Nat.strongRecOn with
  | _ N ih =>
    intro k n v c A len cap kids w hN h hsz
    have H := Lib.hid h
    have IH := Lib.hid ih
    have HL : Hid (len = kids.len) := Lib.hid h.1
    have HN := Lib.hid hN
    have hlen : len ≤ 1400000 := by have := h.1; have := kids.len_le; omega
    clear h ih hN
    go_enter Tryd.func19, Tryd.ntmps19
    go_wp2_with fail
    have q1 := blk1 w (.cells #[.int .u8 k, .int .i64 n, .int .i64 v, .int .u8 c, .slice A len cap] 27)
    have hb1 : Bel w (w.alloc (.cells #[.int .u8 k, .int .i64 n, .int .i64 v, .int .u8 c, .slice A len cap] 27)) := (Bel.refl w).alloc _
    have hs1 : (w.alloc (.cells #[.int .u8 k, .int .i64 n, .int .i64 v, .int .u8 c, .slice A len cap] 27)).heap.size = w.heap.size + 1 := by simp
    obtain ⟨w1, hw1⟩ : ∃ w1, w1 = w.alloc (.cells #[.int .u8 k, .int .i64 n, .int .i64 v, .int .u8 c, .slice A len cap] 27) := ⟨_, rfl⟩
    rw [← hw1] at q1 hb1 hs1 ⊢
    have HQ := Lib.hid q1
    have HB1 := Lib.hid hb1
    have HS1 := Lib.hid hs1
    clear q1 hb1 hs1 hw1
    go_loopw [3, 4] (fun s i wr => ∃ j : Nat, j ≤ len ∧ i = .int .i64 (j : Int) ∧ s = .int .i64 ((1 + kids.upto j : Nat) : Int) ∧ Hid (Bel w1 wr)) (fun _ i _ => len - (intOf i).toNat)
    case atStart => exact ⟨0, Nat.zero_le _, rfl, by rw [Fo.upto_zero]; rfl, Lib.hid (Bel.refl _)⟩
    case round =>
      obtain ⟨j, hj, rfl, rfl, HB⟩ := hrel
      have hbx := (HB.out.block w.heap.size (by have := HS1.out; omega)).trans HQ.out
      obtain ⟨⟨x0, x1, x2, x3, x4⟩, _⟩ := cells5 hbx
      clear hbx
      by_cases hlt : j < len
      · have hkr : KidsAt wr (Old w) A len cap kids := H.out.keep fun i hi => (HB.out.block i (Nat.lt_of_lt_of_le hi HB1.out.size)).trans (HB1.out.block i hi)
        obtain ⟨ub, uo, eA, hob, hfo⟩ := hkr.2.2 (by omega)
        subst eA
        obtain ⟨k', n', v', c', kids', A', cap', en, e1, e2, e3, e4, e5, hk'⟩ := FoAt.nth kids j ub uo hfo (by rw [← HL.out]; exact hlt)
        have hsn := Fo.nth_size kids j
        rw [en] at hsn
        simp only [Fo.size] at hsn
        have HU : Hid (kids.upto (j + 1) = kids.upto j + (1 + kids'.size)) := Lib.hid (by rw [Fo.upto_succ kids j (by rw [← HL.out]; exact hlt), en]; simp [Fo.size])
        have HUL := Lib.hid (Fo.upto_le kids (j + 1))
        have HC : Hid (Calls Tryd.prog 19 #[.agg #[.int .u8 k', .int .i64 n', .int .i64 v', .int .u8 c', .slice A' kids'.len cap']] wr fun e w' => e = .returned (.int .i64 ((1 + kids'.size : Nat) : Int)) ∧ Bel wr w') := Lib.hid (IH.out kids'.size (by have := HN.out; omega) k' n' v' c' A' kids'.len cap' kids' wr rfl (hk'.wide fun i hi => Nat.lt_of_lt_of_le hi (Nat.le_trans HB1.out.size HB.out.size)) (by omega))
        obtain ⟨z, hz⟩ : ∃ z : Int, z = ((1 + kids'.size : Nat) : Int) := ⟨_, rfl⟩
        obtain ⟨y, hy⟩ : ∃ y : Int, y = ((1 + kids.upto j : Nat) : Int) := ⟨_, rfl⟩
        rw [← hz] at HC
        rw [← hy]
        have HZ := Lib.hid (And.intro hz hy)
        have i1 : (0 : Int) ≤ (j : Int) := by omega
        have i2 : (j : Int) < (len : Int) := by omega
        clear hkr hfo en hk' hsn hz hy
        go_wp2_with fail
        refine HC.out.mono ?_
        rintro e w2 ⟨rfl, hb2⟩
        have HB2 := Lib.hid (HB.out.on hb2)
        clear hb2
        go_wp2_with fail
        go_roundw
        case rel =>
          refine ⟨j + 1, by omega, by go_num, ?_, HB2⟩
          have g1 := HZ.out.1
          have g2 := HZ.out.2
          have g3 := HU.out
          have g4 := HUL.out
          rw [wrap64_id (by omega) (by omega)]
          congr 1
          omega
        case measure => simp [intOf]; omega
      · obtain rfl : j = len := by omega
        go_wp2_with fail
        go_ret
        exact ⟨by rw [HL.out, Fo.upto_all]; rfl, HB1.out.on HB.out⟩
end Go.Proofs.YtomojelaookacaaDoor.Mu

