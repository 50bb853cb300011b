/-
  Digits of the document, walked.
-/
import Derived.Test.YteockaolmobmeaaGreatDoorLexWto
import Derived.Deep.DeepCutAuto
import Derived.IntWalk
namespace Go.Proofs.YteockaolmobmeaaGreatDoor.Mu
open Go.RowKit Go.Shelf
set_option maxRecDepth 100000

theorem one_str (w : World) (d : Int) (c : Nat) (hd : c = d.toNat) : (convert 40 9 (.slice (some ⟨w.heap.size, 0, none⟩) 1 1)).run Tryz.prog (w.alloc (.cells #[.int .u8 d] 5)) = .ok (.string ⟨#[UInt8.ofNat c]⟩) (w.alloc (.cells #[.int .u8 d] 5)) := by
  have := bytes_str (w := w.alloc (.cells #[.int .u8 d] 5)) (g := w.heap.size) (t := 5) [d] (blk1 w _) 1 rfl 1
  rw [this, hd]; rfl
theorem dig_small (n : Int) (h0 : 0 ≤ n) (hs : n < 10) (w : World) : Calls Tryz.prog 47 #[.int .i64 n] w fun e w' => e = .returned (.string ⟨(digB n.toNat).toArray⟩) ∧ Bel w w' := by
  have hc := one_str w (48 + n) (48 + n.toNat) (by omega)
  obtain ⟨S, hS⟩ : ∃ S : ByteArray, S = ⟨#[UInt8.ofNat (48 + n.toNat)]⟩ := ⟨_, rfl⟩
  have hw1 : IntKind.i64.wrap (48 + n) = 48 + n := by apply IntWalk.i64_in; omega
  have hw2 : IntKind.u8.wrap (48 + n) = 48 + n := IntWalk.u8_in _ (by omega)
  have hd := decide_eq_true hs
  have HR : Hid ((⟨(digB n.toNat).toArray⟩ : ByteArray) = S) := Lib.hid (by rw [digB_small (by omega), hS])
  rw [← hS] at hc
  clear hs h0 hS
  rw [HR.out]
  go_enter Tryz.func47, Tryz.ntmps47
  go_wp2
  go_ret
  exact ⟨rfl, (Bel.refl w).alloc _⟩
set_option maxHeartbeats 4000000 in
theorem digits10_any : ∀ (m : Nat) (n : Int), n.toNat ≤ m → 0 ≤ n → n ≤ 9223372036854775807 → ∀ w : World, Calls Tryz.prog 47 #[.int .i64 n] w fun e w' => e = .returned (.string ⟨(digB n.toNat).toArray⟩) ∧ Bel w w' := by
  intro m
  induction m with
  | zero =>
    intro n hm h0 h1 w
    exact dig_small n h0 (by omega) w
  | succ m ih =>
    intro n hm h0 h1 w
    by_cases hs : n < 10
    · exact dig_small n h0 hs w
    · have hq : n.tdiv 10 = ((n.toNat / 10 : Nat) : Int) := by rw [Int.tdiv_eq_ediv_of_nonneg h0]; omega
      have hr : n.tmod 10 = ((n.toNat % 10 : Nat) : Int) := by rw [Int.tmod_eq_emod_of_nonneg h0]; omega
      have hIH := fun W => ih (n.tdiv 10) (by omega) (by omega) (by omega) W
      have hz : (digB (n.tdiv 10).toNat).length ≤ 19 := digB_len 18 _ (by omega)
      obtain ⟨T, hT⟩ : ∃ T : ByteArray, T = ⟨(digB (n.tdiv 10).toNat).toArray⟩ := ⟨_, rfl⟩
      have hts : T.size ≤ 19 := by rw [hT]; simpa [ByteArray.size] using hz
      obtain ⟨S, hS⟩ : ∃ S : ByteArray, S = ⟨#[UInt8.ofNat (48 + n.toNat % 10)]⟩ := ⟨_, rfl⟩
      have hss : S.size = 1 := by rw [hS]; rfl
      have HR : Hid ((⟨(digB n.toNat).toArray⟩ : ByteArray) = T ++ S) := Lib.hid (by
        have e1 : (n.tdiv 10).toNat = n.toNat / 10 := by omega
        rw [digB_more (by omega), hT, hS, e1]
        apply ByteArray.ext
        simp)
      have HC0 : Hid (∀ W : World, (convert 40 9 (.slice (some ⟨W.heap.size, 0, none⟩) 1 1)).run Tryz.prog (W.alloc (.cells #[.int .u8 (48 + n.tmod 10)] 5)) = .ok (.string S) (W.alloc (.cells #[.int .u8 (48 + n.tmod 10)] 5))) := Lib.hid fun W => by
        rw [hS]; exact one_str W _ _ (by omega)
      have HC1 : Hid (∀ W : World, Bel (w.alloc (.cells #[.int .u8 (48 + n.tmod 10)] 5)) W → (convert 40 9 (.slice (some ⟨w.heap.size, 0, none⟩) 1 1)).run Tryz.prog W = .ok (.string S) W) := Lib.hid fun W hW => by
        have := bytes_str (w := W) (g := w.heap.size) (t := 5) [48 + n.tmod 10] (hW.blk (blk1 w _)) 1 rfl 1
        have e1 : (48 + n.tmod 10).toNat = 48 + n.toNat % 10 := by omega
        rw [this, hS, ← e1]
        rfl
      rw [← hT] at hIH
      have HIH := Lib.hid hIH
      have hw0 : IntKind.i64.wrap (n.tdiv 10) = n.tdiv 10 := by apply IntWalk.i64_in; omega
      have hw1 : IntKind.i64.wrap (48 + n.tmod 10) = 48 + n.tmod 10 := by apply IntWalk.i64_in; omega
      have hw2 : IntKind.u8.wrap (48 + n.tmod 10) = 48 + n.tmod 10 := IntWalk.u8_in _ (by omega)
      have hcat : ¬ (9223372036854775807 < T.size + 1) := by omega
      have hd := decide_eq_false hs
      clear hIH ih hq hr hz hT hts hS hs h0 h1 hm
      rw [HR.out]
      have hc0 := HC0.out
      have hc3 := HC1.out _ (Bel.refl _).drew
      go_enter Tryz.func47, Tryz.ntmps47
      go_wp2_with fail
      go_region_with (go_at_call 47; refine (HIH.out _).mono ?_; rintro e w1 ⟨rfl, hb⟩; (have HB := Lib.hid hb); (first | (have hc1 := HC1.out _ hb) | (have hc1 := HC1.out _ ((Bel.refl _).drew.on hb)) | skip); clear hb)
      all_goals go_wp2
      all_goals go_ret
      all_goals first | exact ⟨rfl, ((Bel.refl w).drew.on HB.out).alloc _⟩ | exact ⟨rfl, ((Bel.refl w).alloc _).drew.on HB.out⟩
/-- What Digits of the document answers. -/
theorem rdig10_any (n : Int) (h0 : 0 ≤ n) (h1 : n ≤ 9223372036854775807) (w : World) : Calls Tryz.prog 47 #[.int .i64 n] w fun e w' => e = .returned (.string ⟨(digB n.toNat).toArray⟩) ∧ Bel w w' := digits10_any n.toNat n (Nat.le_refl _) h0 h1 w
end Go.Proofs.YteockaolmobmeaaGreatDoor.Mu

