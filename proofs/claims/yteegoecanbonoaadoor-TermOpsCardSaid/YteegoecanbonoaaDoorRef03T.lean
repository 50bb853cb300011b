/-
  The document's own answers for layers 1 to 3, walked: texts, and whether an inequality may be.
-/
import Derived.Test.YteegoecanbonoaaDoorIneqTexts
namespace Go.Proofs.YteegoecanbonoaaDoor.Mu
open Go.ChangeShapes Go.WideShapes Go.ChangeAt Go.RowKit

theorem refOf_any (m : Int) (h1 : 1 ≤ m) (h3 : m ≤ 3) (w : World) : Calls Tryd.prog 84 #[.int .u8 m] w fun e w' => e = .returned (.int .u8 m) ∧ w = w' := by
  have h : m = 1 ∨ m = 2 ∨ m = 3 := by omega
  clear h1 h3
  rcases h with rfl | rfl | rfl
  all_goals
    go_enter Tryd.func84, Tryd.ntmps84
    go_wp2
    go_ret
    exact ⟨rfl, rfl⟩
theorem rmtext_any (m : Int) (h1 : 1 ≤ m) (h3 : m ≤ 3) (w : World) : Calls Tryd.prog 56 #[.int .u8 m] w fun e w' => e = .returned (.string ⟨(mulS m).toArray⟩) ∧ w = w' := by
  have h : m = 1 ∨ m = 2 ∨ m = 3 := by omega
  clear h1 h3
  rcases h with rfl | rfl | rfl
  all_goals
    go_enter Tryd.func56, Tryd.ntmps56
    go_wp2_with (go_at_call 84; refine (refOf_any _ (by omega) (by omega) _).mono ?_; rintro e w' ⟨rfl, rfl⟩)
    go_ret
    exact ⟨rfl, rfl⟩
theorem ret_str {a b : ByteArray} (h : a = b) : Ending.returned (.string a) = .returned (.string b) := by rw [h]
def digS (k : Nat) : ByteArray := ⟨(Lib.decDigits k).toArray⟩
theorem digit_any (n : Int) (h0 : 0 ≤ n) (h9 : n < 10) (w : World) : Calls Tryd.prog 57 #[.int .i64 n] w fun e w' => e = .returned (.string (digS n.toNat)) ∧ w = w' := by
  have h : n = 0 ∨ n = 1 ∨ n = 2 ∨ n = 3 ∨ n = 4 ∨ n = 5 ∨ n = 6 ∨ n = 7 ∨ n = 8 ∨ n = 9 := by omega
  clear h0 h9
  rcases h with rfl | rfl | rfl | rfl | rfl | rfl | rfl | rfl | rfl | rfl
  all_goals
    go_enter Tryd.func57, Tryd.ntmps57
    go_wp2_with fail
    go_ret
    exact ⟨ret_str (by decide +kernel), rfl⟩
theorem digits_any (k : Nat) : ∀ (n : Int) (w : World), n.toNat ≤ k → 0 ≤ n → n < 1048576 → Calls Tryd.prog 57 #[.int .i64 n] w fun e w' => e = .returned (.string (digS n.toNat)) ∧ w = w' := by
  induction k with
  | zero =>
    intro n w hk h0 h1
    exact digit_any n h0 (by omega) w
  | succ k ih =>
    intro n w hk h0 h1
    by_cases h10 : n < 10
    · exact digit_any n h0 h10 w
    · have E : Hid (digS n.toNat = digS (n / 10).toNat ++ digS (n % 10).toNat) := Lib.hid (by
        unfold digS
        have e1 : (n / 10).toNat = n.toNat / 10 := by omega
        have e2 : (n % 10).toNat = n.toNat % 10 := by omega
        rw [e1, e2]
        apply ByteArray.ext
        rw [Lib.decDigits, dif_neg (show ¬ n.toNat < 10 by omega)]
        have : Lib.decDigits (n.toNat % 10) = [UInt8.ofNat (48 + n.toNat % 10)] := by rw [Lib.decDigits, dif_pos (Nat.mod_lt _ (by omega))]
        rw [this]; simp)
      have hl1 : (digS (n / 10).toNat).size ≤ 21 := by
        have h := Lib.itoa_length_le (n / 10) (by omega) (by omega)
        rw [itoa_dec (by omega)] at h
        show (Lib.decDigits _).toArray.size ≤ 21
        rw [List.size_toArray]; exact h
      have hl2 : (digS (n % 10).toNat).size ≤ 21 := by
        have h := Lib.itoa_length_le (n % 10) (by omega) (by omega)
        rw [itoa_dec (by omega)] at h
        show (Lib.decDigits _).toArray.size ≤ 21
        rw [List.size_toArray]; exact h
      go_enter Tryd.func57, Tryd.ntmps57
      go_wp2_with fail
      refine (ih (n / 10) _ (by omega) (by omega) (by omega)).mono ?_
      rintro e w' ⟨rfl, rfl⟩
      go_wp2_with fail
      refine (digit_any (n % 10) (by omega) (by omega) _).mono ?_
      rintro e w' ⟨rfl, rfl⟩
      go_wp2_with fail
      go_ret
      exact ⟨by rw [E.out]; rfl, rfl⟩
theorem rdig_any (n : Int) (h0 : 0 ≤ n) (h1 : n < 1048576) (w : World) : Calls Tryd.prog 57 #[.int .i64 n] w fun e w' => e = .returned (.string (digS n.toNat)) ∧ w = w' := digits_any n.toNat n w (Nat.le_refl _) h0 h1

theorem var_dig {v : Int} (h : 0 ≤ v) : varS v = 109 :: Lib.decDigits v.toNat := by unfold varS; rw [itoa_dec h]
theorem digS_len {v : Int} (h0 : 0 ≤ v) (h1 : v < 1048576) : (digS v.toNat).size ≤ 21 := by
  have h := Lib.itoa_length_le v (by omega) (by omega)
  rw [itoa_dec h0] at h
  show (Lib.decDigits _).toArray.size ≤ 21
  rw [List.size_toArray]; exact h
theorem right_text {c r : Int} (hc1 : 1 ≤ c) (hc3 : c ≤ 3) (hr : 0 ≤ r) : textT false c (rightL r) = (if c = 1 then [] else mulS c ++ [124]) ++ (109 :: Lib.decDigits r.toNat) := by
  unfold rightL
  rw [if_neg (show ¬ r = -1 by omega), ← var_dig hr]
  unfold textT partsS
  by_cases h : c = 1
  · subst h
    have : mulS 1 = [49] := rfl
    simp [this, Lib.join_one]
  · have : ¬ mulS c = [49] := fun e => h ((mulS_one hc1 hc3).1 e)
    simp [this, h, Lib.join, List.intercalate]
theorem right_alone {c : Int} : textT false c (rightL (-1)) = mulS c := by
  unfold rightL textT partsS; simp [Lib.join_one]

set_option maxRecDepth 100000 in
set_option maxHeartbeats 2000000 in
theorem rtext_any (v m c r : Int) (hm : mayI v m c r = true) (w : World) :
    Calls Tryd.prog 37 #[.agg #[.int .i64 v, .int .u8 m, .int .u8 c, .int .i64 r]] w fun e w' => e = .returned (.string ⟨(textI v m c r).toArray⟩) ∧ Bel w w' := by
  unfold mayI at hm
  simp only [Bool.and_eq_true, decide_eq_true_eq] at hm
  obtain ⟨⟨⟨hi, hc⟩, hr0⟩, hr1⟩ := hm
  obtain ⟨c1, c3⟩ := isMultB_bd hc
  have hml : (mulS c).length ≤ 22 := mulS_len c
  have hmm : (mulS m).length ≤ 22 := mulS_len m
  have hv : 0 ≤ v ∧ v < 1048576 := by rcases isB_parts hi with ⟨p, q, s⟩ | ⟨p, q, s⟩ <;> omega
  obtain ⟨v0, v1⟩ := hv
  have hdv := digS_len v0 v1
  have hcase : m = 0 ∨ (1 ≤ m ∧ m ≤ 3) := by rcases isB_parts hi with ⟨p, q, s⟩ | ⟨p, q, s⟩ <;> omega
  rcases hcase with hm | ⟨m1, m3⟩
  case' inl =>
    have hzm : (m != 0) = false := by simpa using hm
    have HL : Hid (leftS v m = 109 :: Lib.decDigits v.toNat) := Lib.hid (by unfold leftS; rw [if_pos hm, var_dig v0])
  case' inr =>
    have hzm : (m != 0) = true := by rw [bne_iff_ne]; omega
    have HL : Hid (leftS v m = mulS m) := Lib.hid (by unfold leftS; rw [if_neg (by omega)])
  all_goals
    have hrc : r < 0 ∨ (0 ≤ r ∧ c = 1) ∨ (0 ≤ r ∧ 1 < c) := by omega
    rcases hrc with hr | ⟨hr, hcc⟩ | ⟨hr, hcc⟩
  case' inl.inl =>
    obtain rfl : r = -1 := by omega
    have HRT : Hid (textT false c (rightL (-1)) = mulS c) := Lib.hid right_alone
    have hdr := True.intro
    clear hr
  case' inl.inr.inl =>
    subst hcc
    have HRT : Hid (textT false 1 (rightL r) = 109 :: Lib.decDigits r.toNat) := Lib.hid (by rw [right_text (by omega) (by omega) hr]; simp)
    have hdr := digS_len hr hr1
  case' inl.inr.inr =>
    have HRT : Hid (textT false c (rightL r) = mulS c ++ [124] ++ (109 :: Lib.decDigits r.toNat)) := Lib.hid (by rw [right_text c1 c3 hr, if_neg (by omega)])
    have hdr := digS_len hr hr1
  case' inr.inl =>
    obtain rfl : r = -1 := by omega
    have HRT : Hid (textT false c (rightL (-1)) = mulS c) := Lib.hid right_alone
    have hdr := True.intro
    clear hr
  case' inr.inr.inl =>
    subst hcc
    have HRT : Hid (textT false 1 (rightL r) = 109 :: Lib.decDigits r.toNat) := Lib.hid (by rw [right_text (by omega) (by omega) hr]; simp)
    have hdr := digS_len hr hr1
  case' inr.inr.inr =>
    have HRT : Hid (textT false c (rightL r) = mulS c ++ [124] ++ (109 :: Lib.decDigits r.toNat)) := Lib.hid (by rw [right_text c1 c3 hr, if_neg (by omega)])
    have hdr := digS_len hr hr1
  all_goals
    have HX : Hid (textI v m _ _ = _) := Lib.hid (by unfold textI; rw [HL.out, HRT.out])
    clear HL HRT hi
    try clear hm
    go_enter Tryd.func37, Tryd.ntmps37
    go_wp2_with (first | (go_at_call 57; refine (rdig_any _ (by assumption) (by assumption) _).mono ?_; rintro e w' ⟨rfl, rfl⟩) | (go_at_call 56; refine (rmtext_any _ (by first | assumption | omega) (by first | assumption | omega) _).mono ?_; rintro e w' ⟨rfl, rfl⟩))
    go_ret
    exact ⟨by rw [HX.out]; apply ret_str; apply ByteArray.ext; simp [digS], (Bel.refl _).alloc _⟩
end Go.Proofs.YteegoecanbonoaaDoor.Mu
